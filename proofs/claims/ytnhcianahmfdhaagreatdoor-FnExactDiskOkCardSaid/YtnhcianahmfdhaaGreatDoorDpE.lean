/-
  Contracts of spec.l05Entries.
-/
import Derived.Test.YtnhcianahmfdhaaGreatDoorDpD
import Derived.Test.YtnhcianahmfdhaaGreatDoorLater
namespace Go.Proofs.YtnhcianahmfdhaaGreatDoor.deed
open Go.RowKit
open kit strs recs disk kd

theorem ents_step {d : D} {l : List Ent} {k : Nat} {p : Option ByteArray} {t : ByteArray} {i : Int} (hx : l[k]? = some (t, i)) :
    entsFrom d p (l.drop k) = (nam.nok t && (nodeIx d.nodes i).isSome && (match p with | none => true | some q => lessB q t) && entsFrom d (some t) (l.drop (k + 1))) := by rw [drop_cons hx]; rfl
/-- the name ahead of the k-th -/
def ahead (l : List Ent) (k : Nat) : Option ByteArray := if k = 0 then none else (l[k - 1]?).map (·.1)
theorem ahead_next {l : List Ent} {k : Nat} {t : ByteArray} {i : Int} (hx : l[k]? = some (t, i)) : ahead l (k + 1) = some t := by unfold ahead; rw [if_neg (by omega), Nat.add_sub_cancel, hx]; rfl
theorem ixI_none : ixI none = -1 := rfl
theorem ixI_some (k : Nat) : ixI (some k) = (k : Int) := rfl

set_option maxHeartbeats 8000000 in
set_option maxRecDepth 100000 in
theorem specEntries (v : Value) (d : D) (a : Option Addr) (n c : Nat) (l : List Ent) (w : World) (hd : d.nodes.length ≤ maxLen) (hn : n ≤ 10000000) (hS : ∀ e ∈ l, e.1.size ≤ 9223372036854775807) (hv : IsDisk w v d) (ha : AtE w a n l) :
    Calls Tryz.prog 31 #[v, .slice a n c] w fun e w' => e = .returned (.bool (entsOk d l)) ∧ Below w.heap.size w w' := by
  have hv0 := hv
  obtain ⟨aN, aE, aO, aS, nN, cN, nE, cE, nO, cO, nS, cS, rfl, hN, hE, hO, hSt⟩ := hv
  obtain ⟨W, hW⟩ : ∃ W, W = w.alloc (.cells #[.slice aN nN cN, .slice aE nE cE, .slice aO nO cO, .slice aS nS cS, .int .i64 d.room, .int .i64 d.next] 28) := ⟨_, rfl⟩
  have hWB : Below w.heap.size w W := by rw [hW]; exact (Below.refl _ _).alloc (Nat.le_refl _) _
  have BX := Lib.hid (show disk.Box W w.heap.size [.slice aN nN cN, .slice aE nE cE, .slice aO nO cO, .slice aS nS cS, .int .i64 d.room, .int .i64 d.next] from by rw [hW]; exact Box.new _ _ _)
  have HV := Lib.hid (hv0.below hWB)
  have HA := Lib.hid (ha.below hWB)
  have HL := Lib.hid ha.len
  have HS := Lib.hid hS
  have HB := Lib.hid hWB
  have HD := Lib.hid hd
  clear hN hE hO hSt hv0 hWB ha hS hd
  go_enter Tryz.func31, Tryz.ntmps31
  go_wp2
  rw [← hW]
  clear hW
  go_loopw [5] (fun i wr => ∃ k : Nat, k ≤ n ∧ i = .int .i64 k ∧ Hid (entsFrom d none l = entsFrom d (ahead l k) (l.drop k)) ∧ Below W.heap.size W wr) (fun i _ => n - (intOf i).toNat)
  case atStart => exact ⟨0, Nat.zero_le _, rfl, Lib.hid rfl, Below.refl _ _⟩
  case round =>
    obtain ⟨k, hk, rfl, hf, hb⟩ := hrel
    by_cases hlt : k < n
    · obtain ⟨t, i, g, o, hx, rfl, hg, c1, c2⟩ := (HA.out.below hb).get hlt
      have hts := HS.out (t, i) (List.mem_of_getElem? hx)
      dsimp only at hts
      have HF := Lib.hid (hf.out.trans (ents_step hx))
      have j0 : (0 : Int) ≤ (k : Int) := by omega
      have j1 : (k : Int) < (n : Int) := by omega
      have bx := BX.out.below hb
      have y0 := Later.cell (bx.at 0 _ rfl) bx.1
      have y1 := Later.cell (bx.at 1 _ rfl) bx.1
      have y2 := Later.cell (bx.at 2 _ rfl) bx.1
      have y3 := Later.cell (bx.at 3 _ rfl) bx.1
      have y4 := Later.cell (bx.at 4 _ rfl) bx.1
      have y5 := Later.cell (bx.at 5 _ rfl) bx.1
      have z1 := Later.cell c1 hg
      have z2 := Later.cell c2 hg
      have HVr := Lib.hid (HV.out.below hb)
      clear c1 c2 bx
      obtain ⟨okn, hok⟩ : ∃ okn, nam.nok t = okn := ⟨_, rfl⟩
      have CQ := Lib.hid (fun w => ((nam.specOk_any t w hts).mono (fun e w' (h : e = Ending.returned (.bool (nam.nok t)) ∧ w = w') => (show e = Ending.returned (.bool okn) ∧ w = w' from ⟨by rw [h.1, hok], h.2⟩))))
      cases okn with
      | false =>
        have HZ := Lib.hid (show entsOk d l = false by unfold entsOk; rw [HF.out, hok]; simp)
        clear hok hx
        go_wp2
        refine wp_region_later (by kernel_rfl) (by kernel_rfl) ?_
        repeat (first | go_big_quiet_skip | (go_big_quiet_want; go_big_quiet_op; first | go_big_quiet_on | (apply Exists.intro; refine ⟨fun x => ?_, ?_⟩; (first | (go_at_call 58; exact Calls.later_same (CQ.out _))); go_big_quiet_on)))
        refine wpQuiet_nil ?_
        rintro w2 ⟨x2, hx2⟩
        have hb2 : Below wr.heap.size wr w2 := hx2 ▸ x2.2
        clear hx2 x2
        go_wp2
        go_ret
        exact ⟨by rw [HZ.out]; rfl, (HB.out.trans (hb.mono HB.out.size)).trans (hb2.mono (Nat.le_trans HB.out.size hb.size))⟩
      | true =>
        obtain ⟨ix, hix⟩ : ∃ ix, ix = nodeIx d.nodes i := ⟨_, rfl⟩
        have CN := Lib.hid (fun (x : Later wr) => (show Calls Tryz.prog 63 #[.agg #[.slice aN nN cN, .slice aE nE cE, .slice aO nO cO, .slice aS nS cS, .int .i64 d.room, .int .i64 d.next], .int .i64 i] x.val fun e w' => e = .returned (.int .i64 (ixI ix)) ∧ Below x.val.heap.size x.val w' by rw [hix]; exact specNode _ d i x.val HD.out (HVr.out.below x.2)))
        cases ix with
        | none =>
          have HZ := Lib.hid (show entsOk d l = false by unfold entsOk; rw [HF.out, hok, ← hix]; simp)
          rw [ixI_none] at CN
          clear hok hx hix
          go_wp2
          refine wp_region_later (by kernel_rfl) (by kernel_rfl) ?_
          repeat (first | go_big_quiet_skip | (go_big_quiet_want; go_big_quiet_op; first | go_big_quiet_on | (apply Exists.intro; refine ⟨fun x => ?_, ?_⟩; (first | (go_at_call 58; exact Calls.later_same (CQ.out _)) | (go_at_call 63; exact Calls.later (CN.out x))); go_big_quiet_on)))
          refine wpQuiet_nil ?_
          rintro w2 ⟨x2, hx2⟩
          have hb2 : Below wr.heap.size wr w2 := hx2 ▸ x2.2
          clear hx2 x2
          go_wp2
          go_ret
          exact ⟨by rw [HZ.out]; rfl, (HB.out.trans (hb.mono HB.out.size)).trans (hb2.mono (Nat.le_trans HB.out.size hb.size))⟩
        | some m =>
          rw [ixI_some] at CN
          have m0 : decide ((m : Int) < 0) = false := by simp
          by_cases hk0 : k = 0
          · have k0 : decide (0 < k) = false := by simp [hk0]
            have HT := Lib.hid (show entsFrom d none l = entsFrom d (ahead l (k + 1)) (l.drop (k + 1)) by rw [HF.out, hok, ← hix, ahead_next hx]; simp [ahead, hk0])
            clear hok hx hix HF hf hk0
            go_wp2
            refine wp_region_later (by kernel_rfl) (by kernel_rfl) ?_
            repeat (first | go_big_quiet_skip | (go_big_quiet_want; go_big_quiet_op; first | go_big_quiet_on | (apply Exists.intro; refine ⟨fun x => ?_, ?_⟩; (first | (go_at_call 58; exact Calls.later_same (CQ.out _)) | (go_at_call 63; exact Calls.later (CN.out x))); go_big_quiet_on)))
            refine wpQuiet_nil ?_
            rintro w2 ⟨x2, hx2⟩
            have hb2 : Below wr.heap.size wr w2 := hx2 ▸ x2.2
            clear hx2 x2
            go_wp2
            go_roundw
            case rel => exact ⟨k + 1, by omega, by go_num, HT, hb.trans (hb2.mono hb.size)⟩
            case measure => simp [intOf]; omega
          · obtain ⟨q, hq⟩ : ∃ q, k = q + 1 := ⟨k - 1, by omega⟩
            obtain ⟨p, pi, g', o', hxp, ha', hg', e1, _⟩ := (HA.out.below hb).get (show q < n by omega)
            obtain ⟨rfl, rfl⟩ : g = g' ∧ o = o' := by simpa using ha'
            have w1 := Later.cell e1 hg
            have hah : ahead l k = some p := by rw [hq]; exact ahead_next hxp
            have q0 : (0 : Int) ≤ (q : Int) := by omega
            have q1 : (q : Int) < (n : Int) := by omega
            have q2 : decide (0 < k) = true := by simp; omega
            have qw : IntKind.i64.wrap ((k : Int) - 1) = (q : Int) := by rw [show (k : Int) - 1 = (q : Int) by omega]; exact IntWalk.i64_in _ (by omega)
            cases hle : lessB p t with
            | false =>
              have HZ := Lib.hid (show entsOk d l = false by unfold entsOk; rw [HF.out, hok, ← hix, hah]; simp [hle])
              have hl2 : Op.bytesLess p.toList t.toList = false := hle
              clear hok hx hix HF hf hah hxp ha' e1 hg' hle hq hk0
              go_wp2
              refine wp_region_later (by kernel_rfl) (by kernel_rfl) ?_
              repeat (first | go_big_quiet_skip | (go_big_quiet_want; go_big_quiet_op; first | go_big_quiet_on | (apply Exists.intro; refine ⟨fun x => ?_, ?_⟩; (first | (go_at_call 58; exact Calls.later_same (CQ.out _)) | (go_at_call 63; exact Calls.later (CN.out x))); go_big_quiet_on)))
              refine wpQuiet_nil ?_
              rintro w2 ⟨x2, hx2⟩
              have hb2 : Below wr.heap.size wr w2 := hx2 ▸ x2.2
              clear hx2 x2
              go_wp2
              go_ret
              exact ⟨by rw [HZ.out]; rfl, (HB.out.trans (hb.mono HB.out.size)).trans (hb2.mono (Nat.le_trans HB.out.size hb.size))⟩
            | true =>
              have HT := Lib.hid (show entsFrom d none l = entsFrom d (ahead l (k + 1)) (l.drop (k + 1)) by rw [HF.out, hok, ← hix, hah, ahead_next hx]; simp [hle])
              have hl2 : Op.bytesLess p.toList t.toList = true := hle
              clear hok hx hix HF hf hah hxp ha' e1 hg' hle hq hk0
              go_wp2
              refine wp_region_later (by kernel_rfl) (by kernel_rfl) ?_
              repeat (first | go_big_quiet_skip | (go_big_quiet_want; go_big_quiet_op; first | go_big_quiet_on | (apply Exists.intro; refine ⟨fun x => ?_, ?_⟩; (first | (go_at_call 58; exact Calls.later_same (CQ.out _)) | (go_at_call 63; exact Calls.later (CN.out x))); go_big_quiet_on)))
              refine wpQuiet_nil ?_
              rintro w2 ⟨x2, hx2⟩
              have hb2 : Below wr.heap.size wr w2 := hx2 ▸ x2.2
              clear hx2 x2
              go_wp2
              go_roundw
              case rel => exact ⟨k + 1, by omega, by go_num, HT, hb.trans (hb2.mono hb.size)⟩
              case measure => simp [intOf]; omega
    · obtain rfl : k = n := by omega
      have HZ := Lib.hid (show entsOk d l = decide (k ≤ 16) by unfold entsOk; rw [hf.out, drop_end HL.out, HL.out]; simp [entsFrom])
      by_cases h16 : k ≤ 16
      · have h2 : (k : Int) ≤ 16 := by omega
        go_wp2
        go_ret
        exact ⟨by rw [HZ.out]; simp [h16], HB.out.trans (hb.mono HB.out.size)⟩
      · have h2 : ¬ (k : Int) ≤ 16 := by omega
        go_wp2
        go_ret
        exact ⟨by rw [HZ.out]; simp [h16], HB.out.trans (hb.mono HB.out.size)⟩

end Go.Proofs.YtnhcianahmfdhaaGreatDoor.deed
