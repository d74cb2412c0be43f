/-
  Contracts of the spec's functions on what is scanned.
-/
import Derived.Test.YtiehfobcbhgfkaaGreatDoorScP
import Derived.Test.YtiehfobcbhgfkaaGreatDoorHdL
namespace Go.Proofs.YtiehfobcbhgfkaaGreatDoor.sc
set_option maxRecDepth 20000
open Go.RowKit
open kit sum num burst hd fr

theorem field_recs (k m : Bool) (v s bb l e : Int) (a a2 : Option Addr) (n c n2 c2 : Nat) (w : World) : (Instr.field 80 (.agg #[.bool k, .int .i64 v, .int .i64 s, .int .i64 bb, .int .i64 l, .slice a n c, .slice a2 n2 c2, .int .i64 e, .bool m]) 2).run Tryz.prog w = .ok (.slice a n c) w := by rfl
def linkN (b : ByteArray) : Nat := lkL (hdOf b).l.toNat (recs b)
def goesB (b : ByteArray) (base link : Int) : Bool := (rdH b).isSome && (hdOf b).b == base && (hdOf b).l == link
theorem hdOf_link (b : ByteArray) : 0 ≤ (hdOf b).l ∧ (hdOf b).l ≤ 4294967295 := by
  cases e : rdH b with
  | none => rw [hdOf_none e]; exact ⟨by decide, by decide⟩
  | some h =>
    have := okH_is.1 (rdH_some e).2.1
    rw [hdOf_some e]
    omega
set_option maxHeartbeats 1000000 in
theorem specRecords (b : ByteArray) (w : World) (hm : b.size ≤ 1048576) :
    Calls Tryz.prog 27 #[.string b] w fun e w' => (∃ v, e = .returned v ∧ w'.ownsRow w.heap.size 9 1 v (recs b).length ((recs b).map Value.string)) ∧ Below w.heap.size w w' := by
  have CS := Lib.hid (fun w => specScan b w hm)

  go_enter Tryz.func27, Tryz.ntmps27
  go_wp2_with fail
  refine (CS.out _).mono ?_
  rintro e w1 ⟨⟨v, rfl, R, O, rfl, oR, oO⟩, b1⟩
  obtain ⟨a, c, rfl, hlen, _, hf⟩ := own_form oR
  obtain ⟨aO, cO, rfl, _, _, _⟩ := own_form oO
  have HO := Lib.hid oR
  have hfd := fun (w : World) => field_recs (rdH b).isSome (marked b) (hdOf b).v (hdOf b).s (hdOf b).b (hdOf b).l (endN b : Int) a aO (recs b).length c (recs b).length cO w
  clear oR oO hf hlen
  go_wp2
  go_ret
  exact ⟨⟨_, rfl, HO.out⟩, b1⟩

set_option maxHeartbeats 1000000 in
theorem specGoes (b : ByteArray) (ba li : Int) (w : World) (hm : b.size ≤ 1048576) :
    Calls Tryz.prog 25 #[.string b, .int .i64 ba, .int .i64 li] w fun e w' => e = .returned (.bool (goesB b ba li)) ∧ Below w.heap.size w w' := by
  have CH := Lib.hid (fun w => specReadHead b w hm)
  have HO := Lib.hid (show goesB b ba li = ((rdH b).isSome && (hdOf b).b == ba && (hdOf b).l == li) from rfl)
  obtain ⟨r, hr⟩ : ∃ r, goesB b ba li = r := ⟨_, rfl⟩
  rw [hr] at HO ⊢
  clear hr
  cases hx : rdH b with
  | none =>
    rw [hx, hdR_none] at CH
    rw [hx] at HO
    go_enter Tryz.func25, Tryz.ntmps25
    go_wp2_with fail
    refine (CH.out _).mono ?_
    rintro e w1 ⟨rfl, b1⟩
    have HB := Lib.hid (b1.alloc b1.size (.cells #[.int .i64 0, .int .i64 0, .int .i64 0, .int .i64 0] 45))
    clear b1
    go_wp2
    go_ret
    exact ⟨by rw [HO.out]; rfl, HB.out⟩
  | some h =>
    rw [hx, hdR_some] at CH
    rw [hx, hdOf_some hx] at HO
    go_enter Tryz.func25, Tryz.ntmps25
    go_wp2_with fail
    refine (CH.out _).mono ?_
    rintro e w1 ⟨rfl, b1⟩
    have bn := Box.new w1 #[.int .i64 h.v, .int .i64 h.s, .int .i64 h.b, .int .i64 h.l] 45
    have x2 := bn.at 2 _ rfl
    have x3 := bn.at 3 _ rfl
    have HB := Lib.hid (b1.alloc b1.size (.cells #[.int .i64 h.v, .int .i64 h.s, .int .i64 h.b, .int .i64 h.l] 45))
    clear b1 bn
    cases e1 : (h.b == ba) with
    | false =>
      rw [e1] at HO
      go_wp2
      go_ret
      exact ⟨by rw [HO.out]; rfl, HB.out⟩
    | true =>
      rw [e1] at HO
      go_wp2
      go_ret
      exact ⟨by rw [HO.out]; rfl, HB.out⟩

set_option maxHeartbeats 1000000 in
theorem specLinkAfter (b : ByteArray) (w : World) (hm : b.size ≤ 1048576) :
    Calls Tryz.prog 55 #[.string b] w fun e w' => e = .returned (.int .i64 (linkN b : Int)) ∧ Below w.heap.size w w' := by
  have CS := Lib.hid (fun w => specScan b w hm)

  go_enter Tryz.func55, Tryz.ntmps55
  go_wp2_with fail
  refine (CS.out _).mono ?_
  rintro e w1 ⟨⟨v, rfl, R, O, rfl, oR, oO⟩, b1⟩
  obtain ⟨a, c, rfl, hlen, _, hf⟩ := own_form oR
  obtain ⟨aO, cO, rfl, _, _, _⟩ := own_form oO
  have hl := hdOf_link b
  obtain ⟨l, hl0⟩ := Int.eq_ofNat_of_zero_le hl.1
  have HL := Lib.hid (show linkN b = lkL l (recs b) by unfold linkN; rw [hl0, Int.toNat_natCast])
  have HS := Lib.hid (recs_small b)
  have hn := recs_le b
  rw [hl0]
  clear hl0 hl
  obtain ⟨xs, hxs⟩ : ∃ xs, recs b = xs := ⟨_, rfl⟩
  rw [hxs] at HL HS hn hlen hf ⊢
  have al := (Below.refl w1.heap.size w1).alloc (Nat.le_refl _) (.cells #[.bool (rdH b).isSome, .int .i64 (hdOf b).v, .int .i64 (hdOf b).s, .int .i64 (hdOf b).b, .int .i64 (l : Int), .slice a xs.length c, .slice aO xs.length cO, .int .i64 (endN b : Int), .bool (marked b)] 80)
  have bn := Box.new w1 #[.bool (rdH b).isSome, .int .i64 (hdOf b).v, .int .i64 (hdOf b).s, .int .i64 (hdOf b).b, .int .i64 (l : Int), .slice a xs.length c, .slice aO xs.length cO, .int .i64 (endN b : Int), .bool (marked b)] 80
  obtain ⟨W1, hW1⟩ : ∃ W1, W1 = w1.alloc (.cells #[.bool (rdH b).isSome, .int .i64 (hdOf b).v, .int .i64 (hdOf b).s, .int .i64 (hdOf b).b, .int .i64 (l : Int), .slice a xs.length c, .slice aO xs.length cO, .int .i64 (endN b : Int), .bool (marked b)] 80) := ⟨_, rfl⟩
  rw [← hW1] at al bn
  have HB := Lib.hid (b1.trans (al.mono b1.size))
  have HN := Lib.hid bn
  have x4 := bn.at 4 _ rfl
  rw [hW1] at x4
  have HCL := Lib.hid (show xs.length = 0 ∨ ∃ g, a = some ⟨g, 0, none⟩ ∧ g < W1.heap.size ∧ ∀ j, j < xs.length → W1.cell? ⟨g, j, none⟩ = (xs.map Value.string)[j]? by
    rcases hf with h0 | ⟨g, h1, _, h3, h4, _⟩
    · exact .inl h0
    · exact .inr ⟨g, h1, Nat.lt_of_lt_of_le h3 al.size, fun j hj => (al.cell (p := ⟨g, j, none⟩) h3).trans (h4 j hj)⟩)
  clear al bn b1 hf hlen oR oO CS
  go_wp2
  rw [← hW1]
  clear hW1 x4
  go_loopw [4, 5] (fun z i wr => ∃ (k m : Nat), k ≤ xs.length ∧ i = .int .i64 k ∧ z = .int .i64 m ∧ Hid (lkL l (xs.take k) = m) ∧ Hid (Below W1.heap.size W1 wr)) (fun _ i _ => xs.length - (intOf i).toNat)
  case atStart => exact ⟨0, l, Nat.zero_le _, rfl, rfl, Lib.hid rfl, Lib.hid (Below.refl _ _)⟩
  case round =>
    obtain ⟨k, m, hk, rfl, rfl, hz, hb⟩ := hrel
    have x5 := (HN.out.below hb.out).at 5 _ rfl
    by_cases hlt : k < xs.length
    · obtain ⟨x, hxk⟩ : ∃ x, xs[k]? = some x := ⟨_, List.getElem?_eq_getElem hlt⟩
      obtain ⟨g, rfl, hg, hc⟩ := HCL.out.resolve_left (by omega)
      have c1 : wr.cell? ⟨g, k, none⟩ = some (.string x) := (hb.out.cell (p := ⟨g, k, none⟩) hg).trans ((hc k hlt).trans (by rw [List.getElem?_map, hxk]; rfl))
      have HS1 := Lib.hid (show lkL l (xs.take (k + 1)) = lkM (m : Int) x by rw [lkL_next hxk, hz.out])
      have hx60 := HS.out x (List.mem_of_getElem? hxk)
      have CM := Lib.hid (specLinkMore (m : Int) x wr (by omega))
      have i0 : (0 : Int) ≤ (k : Int) := by omega
      have i1 : (k : Int) < (xs.length : Int) := by omega
      clear hc hxk hz
      go_wp2_with (fail)
      refine CM.out.mono ?_
      rintro e w2 ⟨rfl, hb1⟩
      go_wp2
      go_roundw
      case rel => exact ⟨k + 1, _, by omega, by go_num, rfl, Lib.hid HS1.out, Lib.hid (hb.out.trans (hb1.mono hb.out.size))⟩
      case measure => simp [intOf]; omega
    · obtain rfl : k = xs.length := by omega
      have HE := Lib.hid (show linkN b = m by have h := hz.out; rw [List.take_of_length_le (Nat.le_refl _)] at h; rw [HL.out, h])
      clear hz
      go_wp2
      go_ret
      exact ⟨by rw [HE.out]; rfl, HB.out.trans (hb.out.mono HB.out.size)⟩

end Go.Proofs.YtiehfobcbhgfkaaGreatDoor.sc
