/-
  Contracts of impl's SealText and SealedSize.
-/
import Derived.Test.YtpibemlganeacaaGreatDoorMathX
import Derived.Test.YtpibemlganeacaaGreatDoorSlP
import Derived.Test.YtpibemlganeacaaGreatDoorPlI
import Derived.Test.YtpibemlganeacaaGreatDoorFrQ
import Derived.Test.YtpibemlganeacaaGreatDoorHdQ
import Derived.Test.YtpibemlganeacaaGreatDoorRecQ
import Derived.Test.YtpibemlganeacaaGreatDoorSlG
import Derived.Test.YtpibemlganeacaaGreatDoorScR
namespace Go.Proofs.YtpibemlganeacaaGreatDoor.sl
set_option maxRecDepth 20000
open Go.RowKit
open kit sum num burst hd fr recs sc pl om

theorem made1i (n : Nat) : (madeCells #[.int .i64 0] (n * 1)).toList = (List.replicate n (0 : Int)).map (Value.int .i64) := by
  rw [Nat.mul_one]
  apply List.ext_getElem?
  intro j
  by_cases hj : j < n <;> simp [madeCells, hj, Nat.mod_one]
theorem box_own {w : World} {B g n cap : Nat} {e : TypeId} {xs : List Value} (h : w.ownsRow B e 1 (.slice (some ⟨g, 0, none⟩) n cap) n xs) : Box w g xs := by
  have hl : xs.length = n := by have := h.1; simpa using this
  refine ⟨⟨(own_block_ge h g rfl).2, fun i v hi => ?_⟩, fun j => h.frozenAt j⟩
  have hj : i < n := by rw [← hl]; exact (List.getElem?_eq_some_iff.1 hi).1
  rw [h.cellAt i (by omega), hi]
theorem at_box {w : World} {g n : Nat} {os : List Int} (h : Box w g (os.map (Value.int .i64))) (hl : os.length = n) : ints.At w (some ⟨g, 0, none⟩) n os := by
  refine ⟨hl, .inr ⟨g, 0, rfl, h.lt, fun j x hx => ?_⟩⟩
  rw [Nat.zero_add]
  exact h.at j _ (by rw [List.getElem?_map, hx]; rfl)
theorem one_str (s : ByteArray) : ∀ u ∈ ([.string s] : List Value), u.oneCell' = true := by simp [Value.oneCell']
theorem map_one (P : List ByteArray) (s : ByteArray) : P.map Value.string ++ [.string s] = (P ++ [s]).map Value.string := by simp

set_option maxHeartbeats 4000000 in
theorem implSeal (v s p l : Int) (a : Option Addr) (c n : Nat) (rs : List ByteArray) (w : World) (hm : n ≤ 1048576) (ha : strs.At w a n rs) :
    Calls Tryz.prog 97 #[.agg #[.int .i64 v, .int .i64 s, .int .i64 p, .int .i64 l], .slice a n c] w fun en w' => en = .returned (.string (slT ⟨v, s, p, l⟩ rs)) ∧ Below w.heap.size w w' := by
  have hlen := ha.1
  have B1 := (Below.refl w.heap.size w).alloc (Nat.le_refl _) (.cells #[.int .i64 v, .int .i64 s, .int .i64 p, .int .i64 l] 41)
  by_cases h1000 : n ≤ 1000
  · have bx := Box.new w #[.int .i64 v, .int .i64 s, .int .i64 p, .int .i64 l] 41
    obtain ⟨W, hW⟩ : ∃ W, W = w.alloc (.cells #[.int .i64 v, .int .i64 s, .int .i64 p, .int .i64 l] 41) := ⟨_, rfl⟩
    rw [← hW] at B1 bx
    have HA := Lib.hid (ha.below B1)
    have B1 := Lib.hid B1
    have BX := Lib.hid bx
    have HW := Lib.hid hW
    have x0 := bx.at 0 _ rfl
    have x1 := bx.at 1 _ rfl
    have x2 := bx.at 2 _ rfl
    have x3 := bx.at 3 _ rfl
    rw [hW] at x0 x1 x2 x3
    have k1 : ¬ (1000 : Int) < (n : Int) := by omega
    obtain ⟨h, hh⟩ : ∃ h : Hd, h = ⟨v, s, p, l⟩ := ⟨_, rfl⟩
    have HE := slT_jn (h := h) (rs := rs) (by omega)
    rw [hlen] at HE
    have CT := Lib.hid (fun w => (implHeadText v s p l w : Calls Tryz.prog 71 #[.agg #[.int .i64 v, .int .i64 s, .int .i64 p, .int .i64 l]] w fun e w' => e = .returned (.string (hdT ⟨v, s, p, l⟩)) ∧ Below w.heap.size w w'))
    have nT := hdT_le h
    rw [← hh] at CT ⊢
    have HFR := Lib.hid (fun (k : Nat) (r : ByteArray) (e : rs[k]? = some r) => (frm_at (h := h) e : frm h rs k = frT h.v (IntKind.i64.wrap (h.b + (k : Int))) r))
    have CFT := Lib.hid (fun (e : Int) w (hA : ints.At w (some ⟨w.heap.size, 0, none⟩) n (offE h rs n)) => hA)
    clear CFT
    have CFO := Lib.hid (fun (g : Nat) (e : Int) w (hA : ints.At w (some ⟨g, 0, none⟩) n (offE h rs n)) => implFoot v s p l e (some ⟨g, 0, none⟩) n n (offE h rs n) w hm (offE_wf h1000) hA)
    rw [← hh] at CFO
    obtain ⟨T, hT⟩ : ∃ T, hdT h = T := ⟨_, rfl⟩
    rw [hT] at CT nT HE
    have HE := Lib.hid HE
    have HH := Lib.hid hh
    have NT := Lib.hid nT
    obtain ⟨i0, hi, hz0, hz1, hz2⟩ := info_parts strs.Tryz.infoStr
    obtain ⟨i1, gi, gz0, gz1, gz2⟩ := info_parts ints.Tryz.infoInt
    clear bx hW ha hh hT nT
    go_enter Tryz.func97, Tryz.ntmps97
    go_wp2_with (fail)
    rw [← HW.out]
    refine (CT.out _).mono ?_
    rintro en w1 ⟨rfl, b1⟩
    have BX := Lib.hid (BX.out.below b1)
    have HA := Lib.hid (HA.out.below b1)
    have B1 := Lib.hid (B1.out.trans (b1.mono B1.out.size))
    clear b1 x0 x1 x2 x3 CT HW
    have b2 := (Below.refl w1.heap.size w1).alloc (Nat.le_refl _) (.cells #[.string T] 9)
    obtain ⟨W2, hW2⟩ : ∃ W2, W2 = w1.alloc (.cells #[.string T] 9) := ⟨_, rfl⟩
    have o2 : W2.ownsRow w1.heap.size 9 1 (.slice (some ⟨w1.heap.size, 0, none⟩) 1 1) 1 ([T].map Value.string) := by
      rw [hW2]
      exact ⟨rfl, .inr ⟨w1.heap.size, 1, #[.string T], rfl, Nat.le_refl _, heap_alloc_new w1 _, Nat.le_refl _, by decide, rfl, rfl⟩⟩
    rw [← hW2] at b2
    have z2 : W2.heap.size = w1.heap.size + 1 := by rw [hW2]; simp
    have O2 := Lib.hid o2
    have B2 := Lib.hid b2
    have HW2 := Lib.hid hW2
    have lt1 := Lib.hid BX.out.lt
    clear b2 o2 hW2
    go_upto_region 4 with fail
    rw [← HW2.out]
    clear HW2
    go_wp2_with (refine wpList_make_full _ (by rfl) _ _ 49 (by rfl) W2.heap.size 3 i1 (.int .i64 0) 1 Tryz.underlying49 gi gz0 gz1 .i64 .i64 _ _ n (by rfl) (by rfl) ?_ ?_ ?_ ?_ ?_ ?_; (first | rfl | omega); (first | rfl | omega); (rw [gz2]; omega); (unfold maxLen; omega); exact Nat.le_refl _; intro w3 hown3 hg3)
    have hb3 : Below W2.heap.size W2 w3 := (Below.refl _ _).grown hg3 (Nat.le_refl _) (fun k hk => by cases hk)
    rw [show (Value.int .i64 0).cells = #[.int .i64 0] from rfl, made1i] at hown3
    have XO := Lib.hid (box_own hown3)
    have gg := (own_block_ge hown3 W2.heap.size rfl).2
    have B3 := Lib.hid (B2.out.trans (hb3.mono (by omega)))
    have O3 := Lib.hid (own_below O2.out hb3)
    have X3 := Lib.hid (BX.out.below B3.out)
    clear hown3 hg3 hb3 O2 B2 BX
    rw [z2] at XO gg
    obtain ⟨g, hg⟩ : ∃ g, w1.heap.size + 1 = g := ⟨_, rfl⟩
    rw [hg] at XO gg ⊢
    have HGG := Lib.hid hg
    clear z2 hg
    go_wp2
    go_loopw [5, 7, 22] (fun sv ev i wr => ∃ k : Nat, k ≤ n ∧ i = .int .i64 k ∧ ev = .int .i64 ((ends h rs k : Nat) : Int) ∧ Hid (wr.ownsRow w1.heap.size 9 1 sv (k + 1) ((T :: frms h rs k).map Value.string)) ∧ Hid (∀ q, sv.ownBlock = some q → q ≠ g) ∧ Hid (Box wr g (((offE h rs n).take k ++ List.replicate (n - k) 0).map (Value.int .i64))) ∧ Hid (Box wr w.heap.size [.int .i64 v, .int .i64 s, .int .i64 p, .int .i64 l]) ∧ Hid (Below w1.heap.size w1 wr)) (fun _ _ i _ => n - (intOf i).toNat)
    case atStart => exact ⟨0, Nat.zero_le _, rfl, rfl, O3, Lib.hid (fun q hq => by simp only [Value.ownBlock, Option.some.injEq] at hq; have := HGG.out; omega), Lib.hid (by simpa using XO.out), X3, B3⟩
    case round =>
      obtain ⟨k, hk, rfl, rfl, OO, HQ, HO, HB, hb⟩ := hrel
      have hend := ends_le h rs k
      by_cases hlt : k < n
      · obtain ⟨x, hxk⟩ : ∃ x, rs[k]? = some x := ⟨_, List.getElem?_eq_getElem (by omega)⟩
        obtain ⟨gr, o, rfl, hgr, hx⟩ := HA.out.2.resolve_left (by omega)
        have c1 := (hb.out.cell (p := ⟨gr, o + k, none⟩) hgr).trans (hx k x hxk)
        have y0 := HB.out.at 0 _ rfl
        have y2 := HB.out.at 2 _ rfl
        have j0 : (0 : Int) ≤ (k : Int) := by omega
        have j1 : (k : Int) < (n : Int) := by omega
        have hF := HFR.out k x hxk
        rw [HH.out] at hF
        have CF := Lib.hid (fun w => implFrame_all v (IntKind.i64.wrap (p + (k : Int))) x w)
        rw [show frT v (IntKind.i64.wrap (p + (k : Int))) x = frm ⟨v, s, p, l⟩ rs k from hF.symm, ← HH.out] at CF
        have CF : Hid (∀ w : World, Calls Tryz.prog 68 #[.int .i64 v, .int .i64 (RowKit.wrap64 (p + (k : Int))), .string x] w fun e w' => e = .returned (.string (frm h rs k)) ∧ Below w.heap.size w w') := Lib.hid (fun w => by
          rw [show RowKit.wrap64 (p + (k : Int)) = IntKind.i64.wrap (p + (k : Int)) from by rw [IntKind.wrap_i64]; unfold RowKit.wrap64; rfl]
          exact CF.out w)
        have HN := Lib.hid (frms_next h rs k)
        have HS := Lib.hid (fill_set2 (offE h rs n) 0 _ n k (offE_length h rs n) hlt (offE_at hlt))
        have HEN := Lib.hid (show ends h rs (k + 1) = ends h rs k + (frm h rs k).size from rfl)
        have hF2 := frm_le h rs k
        obtain ⟨F, hFF⟩ : ∃ F, frm h rs k = F := ⟨_, rfl⟩
        rw [hFF] at CF HN HEN hF2
        have hl : k < (((offE h rs n).take k ++ List.replicate (n - k) 0).map (Value.int .i64)).length := by simp [offE_length]; omega
        have HLL := Lib.hid hl
        obtain ⟨E, hE⟩ : ∃ E, ends h rs k = E := ⟨_, rfl⟩
        rw [hE] at HS HEN hend ⊢
        clear hxk hx hF hFF hl hE
        go_wp2_with (fail)
        refine (CF.out _).mono ?_
        rintro en w4 ⟨rfl, b4⟩
        have O4 := Lib.hid (own_below OO.out b4)
        have XO4 := Lib.hid (HO.out.below b4)
        have XH4 := Lib.hid (HB.out.below b4)
        have B4 := Lib.hid (hb.out.trans (b4.mono hb.out.size))
        have sg := XO4.out.lt
        clear b4 OO HO HB hb y0 y2 c1 CF
        go_wp2_with (at_builtin; refine list_appN3 (by rfl) (.tmp 35) (.tmp 37) 42 (by rfl) w1.heap.size w4 9 i0 (.string { data := #[] }) 1 16 Tryz.underlying42 hi hz0 hz1 hz2 (by rfl) (by decide) _ (k + 1) _ O4.out B4.out.size [.string F] 1 (by decide) rfl (one_str F) ?_ ?_ (by rfl) (by rfl) (by rfl) ?_; (unfold maxLen; omega); omega; intro v5 w5 o5 g5 q5; have XO5 := Lib.hid (XO4.out.grown g5 (fun e => HQ.out _ e rfl)); obtain ⟨u0, c0⟩ : ∃ u, w5.cell? ⟨g, k, none⟩ = some u := ⟨_, XO5.out.at k _ (List.getElem?_eq_getElem HLL.out)⟩; have f0 := XO5.out.2 k)
        have XH5 := Lib.hid (XH4.out.grown g5 (fun e => by have := (own_block_ge O4.out _ e).1; have := lt1.out; omega))
        have B5 := Lib.hid (B4.out.grown g5 B4.out.size (fun q hq => (own_block_ge O4.out q hq).1))
        have O5 := Lib.hid o5
        have Q5 := Lib.hid (fun q (hq : v5.ownBlock = some q) => (q5 q hq).elim (fun e => HQ.out q e) (fun (e : w4.heap.size ≤ q) => by omega))
        clear o5 g5 q5 HQ O4 XO4 XH4 B4
        go_roundw
        case rel =>
          refine ⟨k + 1, by omega, by go_num, ?_, Lib.hid ?_, Q5, Lib.hid ?_, Lib.hid (XH5.out.far k (.int .i64 (E : Int)) (by have := lt1.out; have := HGG.out; omega)), Lib.hid (B5.out.setCell (p := ⟨g, k, none⟩) (by have := HGG.out; show w1.heap.size ≤ g; omega) _)⟩
          · rw [HEN.out]; go_num
          · rw [HN.out, ← List.cons_append, ← map_one]
            exact own_setOther O5.out g k _ (fun e => Q5.out g e rfl)
          · rw [← HS.out, List.map_set]
            exact XO5.out.set k (.int .i64 (E : Int)) HLL.out
        case measure => simp [intOf]; omega
      · obtain rfl : k = n := by omega
        have y0 := HB.out.at 0 _ rfl
        have y1 := HB.out.at 1 _ rfl
        have y2 := HB.out.at 2 _ rfl
        have y3 := HB.out.at 3 _ rfl
        have HT := Lib.hid (show (offE h rs k).take k ++ List.replicate (k - k) 0 = offE h rs k by
          rw [Nat.sub_self, List.replicate_zero, List.append_nil, List.take_of_length_le (by rw [offE_length]; exact Nat.le_refl _)])
        rw [HT.out] at HO
        have HAO := Lib.hid (at_box HO.out (offE_length h rs k))
        have CF := Lib.hid (fun w hA => CFO.out g ((ends h rs k : Nat) : Int) w hA)
        have hft := ftT_le h (offE h rs k) ((ends h rs k : Nat) : Int)
        rw [offE_length] at hft
        obtain ⟨F, hF⟩ : ∃ F, ftT h (offE h rs k) ((ends h rs k : Nat) : Int) = F := ⟨_, rfl⟩
        rw [hF] at CF HE hft
        obtain ⟨E, hE⟩ : ∃ E, ends h rs k = E := ⟨_, rfl⟩
        rw [hE] at CF hend ⊢
        have HFL := Lib.hid (frms_le h rs k)
        have HFN := Lib.hid (frms_length h rs k)
        clear hF hE CFO
        go_wp2_with (fail)
        refine (CF.out _ HAO.out).mono ?_
        rintro en w4 ⟨rfl, b4⟩
        have O4 := Lib.hid (own_below OO.out b4)
        have B4 := Lib.hid (hb.out.trans (b4.mono hb.out.size))
        clear b4 OO HO HB hb y0 y1 y2 y3 CF HAO
        go_wp2_with (at_builtin; refine list_appN3 (by rfl) (.tmp 48) (.tmp 53) 42 (by rfl) w1.heap.size w4 9 i0 (.string { data := #[] }) 1 16 Tryz.underlying42 hi hz0 hz1 hz2 (by rfl) (by decide) _ (k + 1) _ O4.out B4.out.size [.string F] 1 (by decide) rfl (one_str F) ?_ ?_ (by rfl) (by rfl) (by rfl) ?_; (unfold maxLen; omega); omega; intro v5 w5 o5 g5 q5)
        rw [map_one] at o5
        have B5 := Lib.hid (B4.out.grown g5 B4.out.size (fun q hq => (own_block_ge O4.out q hq).1))
        obtain ⟨g6, c6, rfl, hlen6, hcap6, hg6, hcells6⟩ := own_cells_at o5 (by omega)
        have CJ := Lib.hid (joined g6 0 c6 (k + 1 + 1) (T :: frms h rs k ++ [F]) w5 hlen6 hcap6 hg6 hcells6 (by omega) (fun x hx => by
          rcases List.mem_append.1 hx with hx | hx
          · rcases List.mem_cons.1 hx with rfl | hx
            · have := NT.out; omega
            · have := HFL.out x hx; omega
          · obtain rfl := List.mem_singleton.1 hx
            omega))
        clear o5 g5 q5 hlen6 hcap6 hg6 hcells6 O4 B4
        go_wp2_with (fail)
        refine CJ.out.mono ?_
        rintro en w6 ⟨rfl, b6⟩
        go_wp2
        go_ret
        exact ⟨by rw [HE.out]; rfl, B1.out.trans ((B5.out.trans (b6.mono B5.out.size)).mono B1.out.size)⟩
  · have k1 : (1000 : Int) < (n : Int) := by omega
    have HE := Lib.hid (slT_no (h := ⟨v, s, p, l⟩) (rs := rs) fun h => by have h3 := h.2.1; omega)
    clear ha hlen
    go_enter Tryz.func97, Tryz.ntmps97
    go_wp2
    go_ret
    exact ⟨by rw [HE.out]; rfl, B1⟩

end Go.Proofs.YtpibemlganeacaaGreatDoor.sl

namespace Go.Proofs.YtpibemlganeacaaGreatDoor.sl
set_option maxRecDepth 20000
open Go.RowKit
open kit sum num burst hd fr recs sc pl om

/-- why a text is not sealed, the three errors standing at these places -/
def whyV (a b c : Addr) (t : ByteArray) : Value := if (rdH t).isSome = false then errAt a else if marked t = false then errAt b else if slT (hdOf t) (sc.recs t) = t then .nilIface else errAt c
theorem why_head {a b c : Addr} {t : ByteArray} (h : (rdH t).isSome = false) : whyV a b c t = errAt a := if_pos h
theorem why_mark {a b c : Addr} {t : ByteArray} (h : (rdH t).isSome = true) (h1 : marked t = false) : whyV a b c t = errAt b := by unfold whyV; rw [if_neg (by rw [h]; decide), if_pos h1]
theorem why_none {a b c : Addr} {t : ByteArray} (h : (rdH t).isSome = true) (h1 : marked t = true) (h2 : slT (hdOf t) (sc.recs t) = t) : whyV a b c t = .nilIface := by unfold whyV; rw [if_neg (by rw [h]; decide), if_neg (by rw [h1]; decide), if_pos h2]
theorem why_text {a b c : Addr} {t : ByteArray} (h : (rdH t).isSome = true) (h1 : marked t = true) (h2 : ¬ slT (hdOf t) (sc.recs t) = t) : whyV a b c t = errAt c := by unfold whyV; rw [if_neg (by rw [h]; decide), if_neg (by rw [h1]; decide), if_neg h2]
theorem why_yes {a b c : Addr} {t : ByteArray} (h : isS t = true) : whyV a b c t = .nilIface := by
  obtain ⟨g, h1, h2, h3⟩ := isS_is.1 h
  exact why_none (by rw [h1]; rfl) h2 (by rw [hdOf_some h1]; exact h3)
theorem why_no {a b c : Addr} {t : ByteArray} (h : isS t = false) : ∃ x, whyV a b c t = errAt x := by
  cases h0 : (rdH t).isSome with
  | false => exact ⟨a, why_head h0⟩
  | true =>
    cases h1 : marked t with
    | false => exact ⟨b, why_mark h0 h1⟩
    | true =>
      by_cases h2 : slT (hdOf t) (sc.recs t) = t
      · rw [isS_same h0 h1 h2] at h; cases h
      · exact ⟨c, why_text h0 h1 h2⟩
theorem scan_end {B B' r : Nat} {w : World} {aR aO : Option Addr} {cR cO : Nat} {t : ByteArray} (hR : w.ownsRow B 9 1 (.slice aR (sc.recs t).length cR) (sc.recs t).length ((sc.recs t).map Value.string)) (hO : w.ownsRow B 3 1 (.slice aO (sc.recs t).length cO) (sc.recs t).length ((sc.offs t).map fun (o : Nat) => Value.int .i64 (o : Int))) (hr : r < B) (hB : B' ≤ B) (c0 c1 c2 c3 c4 c5 c6 c7 c8 : Value) :
    OwnScan B' (nine w r c0 c1 c2 c3 c4 c5 c6 c7 c8) (.agg #[.bool (rdH t).isSome, .int .i64 (hdOf t).v, .int .i64 (hdOf t).s, .int .i64 (hdOf t).b, .int .i64 (hdOf t).l, .slice aR (sc.recs t).length cR, .slice aO (sc.recs t).length cO, .int .i64 (endN t : Int), .bool (marked t)]) t := ⟨_, _, rfl, own_nine _ _ _ _ _ _ _ _ _ hR hr hB, own_nine _ _ _ _ _ _ _ _ _ hO hr hB⟩
theorem scan_drew {B : Nat} {w : World} {v : Value} {t : ByteArray} (h : OwnScan B w v t) : OwnScan B w.drew v t := by
  obtain ⟨R, O, hv, h1, h2⟩ := h
  exact ⟨R, O, hv, own_drew h1, own_drew h2⟩

set_option maxHeartbeats 4000000 in
set_option maxRecDepth 20000 in
theorem implScanSealed (t : ByteArray) (a b c : Addr) (w : World) (hm : t.size ≤ 1048576) (h0 : w.cell? ⟨0, 0, none⟩ = some (errAt a)) (h1 : w.cell? ⟨1, 0, none⟩ = some (errAt b)) (h2 : w.cell? ⟨2, 0, none⟩ = some (errAt c)) :
    Calls Tryz.prog 89 #[.string t] w fun e w' => (∃ v, e = .returned (.tuple #[v, whyV a b c t]) ∧ OwnScan w.heap.size w' v t) ∧ Below w.heap.size w w' := by
  have CS := Lib.hid (fun w => implScan t w hm)
  have bw := (Below.refl w.heap.size w).alloc (Nat.le_refl _) (.cells #[.bool false, .int .i64 0, .int .i64 0, .int .i64 0, .int .i64 0, .slice none 0 0, .slice none 0 0, .int .i64 0, .bool false] 51)
  have rx := Box.new w #[.bool false, .int .i64 0, .int .i64 0, .int .i64 0, .int .i64 0, .slice none 0 0, .slice none 0 0, .int .i64 0, .bool false] 51
  obtain ⟨W, hW⟩ : ∃ W, W = w.alloc (.cells #[.bool false, .int .i64 0, .int .i64 0, .int .i64 0, .int .i64 0, .slice none 0 0, .slice none 0 0, .int .i64 0, .bool false] 51) := ⟨_, rfl⟩
  rw [← hW] at bw rx
  have B1 := Lib.hid bw
  have RX := Lib.hid rx
  have HW := Lib.hid hW
  have E0 := Lib.hid (fun w' (h : Below w.heap.size w w') => (h.cell (p := ⟨0, 0, none⟩) (World.block_lt_of_cell? w _ h0)).trans h0)
  have E1 := Lib.hid (fun w' (h : Below w.heap.size w w') => (h.cell (p := ⟨1, 0, none⟩) (World.block_lt_of_cell? w _ h1)).trans h1)
  have E2 := Lib.hid (fun w' (h : Below w.heap.size w w') => (h.cell (p := ⟨2, 0, none⟩) (World.block_lt_of_cell? w _ h2)).trans h2)
  have hn := recs_le t
  have l0 := World.block_lt_of_cell? w _ h0
  have l1 := World.block_lt_of_cell? w _ h1
  have l2 := World.block_lt_of_cell? w _ h2
  have n0 := Lib.hid (show w.heap.size ≠ 0 by have : 0 < w.heap.size := l0; omega)
  have n1 := Lib.hid (show w.heap.size ≠ 1 by have : 1 < w.heap.size := l1; omega)
  have n2 := Lib.hid (show w.heap.size ≠ 2 by have : 2 < w.heap.size := l2; omega)
  clear l0 l1 l2
  clear hW bw rx h0 h1 h2
  go_enter Tryz.func89, Tryz.ntmps89
  go_wp2_with (fail)
  rw [← HW.out]
  clear HW
  refine (CS.out _).mono ?_
  rintro e w2 ⟨⟨v2, rfl, R, O, rfl, rR, rO⟩, b2⟩
  have sW : w.heap.size < W.heap.size := RX.out.lt
  have RX := Lib.hid (RX.out.below b2)
  have s2 : w.heap.size < w2.heap.size := RX.out.lt
  have B2 := Lib.hid (B1.out.trans (b2.mono B1.out.size))
  obtain ⟨aR, cR, rfl, _, _, _⟩ := own_form rR
  obtain ⟨aO, cO, rfl, _, _, _⟩ := own_form rO
  clear b2 B1 CS
  have al := (Below.refl w2.heap.size w2).alloc (Nat.le_refl _) (.cells #[.bool (rdH t).isSome, .int .i64 (hdOf t).v, .int .i64 (hdOf t).s, .int .i64 (hdOf t).b, .int .i64 (hdOf t).l, .slice aR (sc.recs t).length cR, .slice aO (sc.recs t).length cO, .int .i64 (endN t : Int), .bool (marked t)] 51)
  have sx := Box.new w2 #[.bool (rdH t).isSome, .int .i64 (hdOf t).v, .int .i64 (hdOf t).s, .int .i64 (hdOf t).b, .int .i64 (hdOf t).l, .slice aR (sc.recs t).length cR, .slice aO (sc.recs t).length cO, .int .i64 (endN t : Int), .bool (marked t)] 51
  obtain ⟨W3, hW3⟩ : ∃ W3, W3 = w2.alloc (.cells #[.bool (rdH t).isSome, .int .i64 (hdOf t).v, .int .i64 (hdOf t).s, .int .i64 (hdOf t).b, .int .i64 (hdOf t).l, .slice aR (sc.recs t).length cR, .slice aO (sc.recs t).length cO, .int .i64 (endN t : Int), .bool (marked t)] 51) := ⟨_, rfl⟩
  rw [← hW3] at al sx
  have RX := Lib.hid (RX.out.below al)
  have HR := Lib.hid (own_below rR al)
  have HO := Lib.hid (own_below rO al)
  have B3 := Lib.hid (B2.out.trans (al.mono B2.out.size))
  have SX := Lib.hid sx
  have HW3 := Lib.hid hW3
  clear al sx hW3 rR rO B2
  go_upto_region 2 with fail
  rw [← HW3.out]
  clear HW3
  have ne : w.heap.size ≠ w2.heap.size := by omega
  cases k0 : (rdH t).isSome with
  | false =>
    have HY := Lib.hid (why_head (a := a) (b := b) (c := c) k0)
    have HV := Lib.hid (fun W (h : OwnScan w.heap.size W (.agg #[.bool (rdH t).isSome, .int .i64 (hdOf t).v, .int .i64 (hdOf t).s, .int .i64 (hdOf t).b, .int .i64 (hdOf t).l, .slice aR (sc.recs t).length cR, .slice aO (sc.recs t).length cO, .int .i64 (endN t : Int), .bool (marked t)]) t) => (show OwnScan w.heap.size W (.agg #[.bool false, .int .i64 (hdOf t).v, .int .i64 (hdOf t).s, .int .i64 (hdOf t).b, .int .i64 (hdOf t).l, .slice aR (sc.recs t).length cR, .slice aO (sc.recs t).length cO, .int .i64 (endN t : Int), .bool (marked t)]) t by rw [k0] at h; exact h))
    rw [k0] at SX
    have e0 := E0.out _ B3.out
    have y0 := n0.out
    have z0 := Ne.symm n0.out
    have x0 := SX.out.at 0 _ rfl
    have x1 := SX.out.at 1 _ rfl
    have x2 := SX.out.at 2 _ rfl
    have x3 := SX.out.at 3 _ rfl
    have x4 := SX.out.at 4 _ rfl
    have x5 := SX.out.at 5 _ rfl
    have x6 := SX.out.at 6 _ rfl
    have x7 := SX.out.at 7 _ rfl
    have x8 := SX.out.at 8 _ rfl
    have p0 := RX.out.at 0 _ rfl
    have p1 := RX.out.at 1 _ rfl
    have p2 := RX.out.at 2 _ rfl
    have p3 := RX.out.at 3 _ rfl
    have p4 := RX.out.at 4 _ rfl
    have p5 := RX.out.at 5 _ rfl
    have p6 := RX.out.at 6 _ rfl
    have p7 := RX.out.at 7 _ rfl
    have p8 := RX.out.at 8 _ rfl
    have r0 := RX.out.2 0
    have r1 := RX.out.2 1
    have r2 := RX.out.2 2
    have r3 := RX.out.2 3
    have r4 := RX.out.2 4
    have r5 := RX.out.2 5
    have r6 := RX.out.2 6
    have r7 := RX.out.2 7
    have r8 := RX.out.2 8
    clear k0
    go_wp2
    go_region
    go_wp2
    have bN := below_nine (.bool false) (.int .i64 (hdOf t).v) (.int .i64 (hdOf t).s) (.int .i64 (hdOf t).b) (.int .i64 (hdOf t).l) (.slice aR (sc.recs t).length cR) (.slice aO (sc.recs t).length cO) (.int .i64 (endN t : Int)) (.bool (marked t)) B3.out (Nat.le_refl w.heap.size)
    have oN := scan_end HR.out HO.out sW (Nat.le_of_lt sW) (.bool false) (.int .i64 (hdOf t).v) (.int .i64 (hdOf t).s) (.int .i64 (hdOf t).b) (.int .i64 (hdOf t).l) (.slice aR (sc.recs t).length cR) (.slice aO (sc.recs t).length cO) (.int .i64 (endN t : Int)) (.bool (marked t))
    rw [HY.out]
    try simp only [Exit.inBlock, Exit.then]
    refine bodyPost_ret (v := .tuple #[.agg #[.bool false, .int .i64 (hdOf t).v, .int .i64 (hdOf t).s, .int .i64 (hdOf t).b, .int .i64 (hdOf t).l, .slice aR (sc.recs t).length cR, .slice aO (sc.recs t).length cO, .int .i64 (endN t : Int), .bool (marked t)], errAt a]) (by simp [results, Tryz.results89, go_sem, p0, p1, p2, p3, p4, p5, p6, p7, p8]) rfl ⟨⟨_, rfl, ?_⟩, bN.drew⟩
    exact HV.out _ (scan_drew oN)
  | true =>
    cases k1 : marked t with
    | false =>
      have HY := Lib.hid (why_mark (a := a) (b := b) (c := c) k0 k1)
      have HV := Lib.hid (fun W (h : OwnScan w.heap.size W (.agg #[.bool (rdH t).isSome, .int .i64 (hdOf t).v, .int .i64 (hdOf t).s, .int .i64 (hdOf t).b, .int .i64 (hdOf t).l, .slice aR (sc.recs t).length cR, .slice aO (sc.recs t).length cO, .int .i64 (endN t : Int), .bool (marked t)]) t) => (show OwnScan w.heap.size W (.agg #[.bool true, .int .i64 (hdOf t).v, .int .i64 (hdOf t).s, .int .i64 (hdOf t).b, .int .i64 (hdOf t).l, .slice aR (sc.recs t).length cR, .slice aO (sc.recs t).length cO, .int .i64 (endN t : Int), .bool false]) t by rw [k0] at h; rw [k1] at h; exact h))
      rw [k0, k1] at SX
      have e1 := E1.out _ B3.out
      have y1 := n1.out
      have z1 := Ne.symm n1.out
      have x0 := SX.out.at 0 _ rfl
      have x1 := SX.out.at 1 _ rfl
      have x2 := SX.out.at 2 _ rfl
      have x3 := SX.out.at 3 _ rfl
      have x4 := SX.out.at 4 _ rfl
      have x5 := SX.out.at 5 _ rfl
      have x6 := SX.out.at 6 _ rfl
      have x7 := SX.out.at 7 _ rfl
      have x8 := SX.out.at 8 _ rfl
      have p0 := RX.out.at 0 _ rfl
      have p1 := RX.out.at 1 _ rfl
      have p2 := RX.out.at 2 _ rfl
      have p3 := RX.out.at 3 _ rfl
      have p4 := RX.out.at 4 _ rfl
      have p5 := RX.out.at 5 _ rfl
      have p6 := RX.out.at 6 _ rfl
      have p7 := RX.out.at 7 _ rfl
      have p8 := RX.out.at 8 _ rfl
      have r0 := RX.out.2 0
      have r1 := RX.out.2 1
      have r2 := RX.out.2 2
      have r3 := RX.out.2 3
      have r4 := RX.out.2 4
      have r5 := RX.out.2 5
      have r6 := RX.out.2 6
      have r7 := RX.out.2 7
      have r8 := RX.out.2 8
      clear k0 k1
      go_wp2
      go_region
      go_wp2
      have bN := below_nine (.bool true) (.int .i64 (hdOf t).v) (.int .i64 (hdOf t).s) (.int .i64 (hdOf t).b) (.int .i64 (hdOf t).l) (.slice aR (sc.recs t).length cR) (.slice aO (sc.recs t).length cO) (.int .i64 (endN t : Int)) (.bool false) B3.out (Nat.le_refl w.heap.size)
      have oN := scan_end HR.out HO.out sW (Nat.le_of_lt sW) (.bool true) (.int .i64 (hdOf t).v) (.int .i64 (hdOf t).s) (.int .i64 (hdOf t).b) (.int .i64 (hdOf t).l) (.slice aR (sc.recs t).length cR) (.slice aO (sc.recs t).length cO) (.int .i64 (endN t : Int)) (.bool false)
      rw [HY.out]
      try simp only [Exit.inBlock, Exit.then]
      refine bodyPost_ret (v := .tuple #[.agg #[.bool true, .int .i64 (hdOf t).v, .int .i64 (hdOf t).s, .int .i64 (hdOf t).b, .int .i64 (hdOf t).l, .slice aR (sc.recs t).length cR, .slice aO (sc.recs t).length cO, .int .i64 (endN t : Int), .bool false], errAt b]) (by simp [results, Tryz.results89, go_sem, p0, p1, p2, p3, p4, p5, p6, p7, p8]) rfl ⟨⟨_, rfl, ?_⟩, bN.drew⟩
      exact HV.out _ (scan_drew oN)
    | true =>
      have AR := Lib.hid (strs.At.of_own HR.out)
      have CT := Lib.hid (fun w (h : strs.At w aR (sc.recs t).length (sc.recs t)) => implSeal (hdOf t).v (hdOf t).s (hdOf t).b (hdOf t).l aR cR (sc.recs t).length (sc.recs t) w (by omega) h)
      have HSL := Lib.hid (show slT ⟨(hdOf t).v, (hdOf t).s, (hdOf t).b, (hdOf t).l⟩ (sc.recs t) = slT (hdOf t) (sc.recs t) from rfl)
      rw [HSL.out] at CT
      have HY := Lib.hid (fun h => why_none (a := a) (b := b) (c := c) k0 k1 h)
      have HN := Lib.hid (fun h => why_text (a := a) (b := b) (c := c) k0 k1 h)
      have HV := Lib.hid (fun W (h : OwnScan w.heap.size W (.agg #[.bool (rdH t).isSome, .int .i64 (hdOf t).v, .int .i64 (hdOf t).s, .int .i64 (hdOf t).b, .int .i64 (hdOf t).l, .slice aR (sc.recs t).length cR, .slice aO (sc.recs t).length cO, .int .i64 (endN t : Int), .bool (marked t)]) t) => (show OwnScan w.heap.size W (.agg #[.bool true, .int .i64 (hdOf t).v, .int .i64 (hdOf t).s, .int .i64 (hdOf t).b, .int .i64 (hdOf t).l, .slice aR (sc.recs t).length cR, .slice aO (sc.recs t).length cO, .int .i64 (endN t : Int), .bool true]) t by rw [k0] at h; rw [k1] at h; exact h))
      rw [k0, k1] at SX
      obtain ⟨T, hT⟩ : ∃ T, slT (hdOf t) (sc.recs t) = T := ⟨_, rfl⟩
      rw [hT] at CT HY HN
      have x0 := SX.out.at 0 _ rfl
      have x1 := SX.out.at 1 _ rfl
      have x2 := SX.out.at 2 _ rfl
      have x3 := SX.out.at 3 _ rfl
      have x4 := SX.out.at 4 _ rfl
      have x5 := SX.out.at 5 _ rfl
      have x8 := SX.out.at 8 _ rfl
      clear HSL hT k0 k1
      go_wp2_with (fail)
      refine (CT.out _ AR.out).mono ?_
      rintro e w4 ⟨rfl, b4⟩
      have RX := Lib.hid (RX.out.below b4)
      have SX := Lib.hid (SX.out.below b4)
      have HR := Lib.hid (own_below HR.out b4)
      have HO := Lib.hid (own_below HO.out b4)
      have B4 := Lib.hid (B3.out.trans (b4.mono B3.out.size))
      clear b4 x0 x1 x2 x3 x4 x5 x8 CT AR B3
      have e2 := E2.out _ B4.out
      have y2 := n2.out
      have z2 := Ne.symm n2.out
      have x0 := SX.out.at 0 _ rfl
      have x1 := SX.out.at 1 _ rfl
      have x2 := SX.out.at 2 _ rfl
      have x3 := SX.out.at 3 _ rfl
      have x4 := SX.out.at 4 _ rfl
      have x5 := SX.out.at 5 _ rfl
      have x6 := SX.out.at 6 _ rfl
      have x7 := SX.out.at 7 _ rfl
      have x8 := SX.out.at 8 _ rfl
      have p0 := RX.out.at 0 _ rfl
      have p1 := RX.out.at 1 _ rfl
      have p2 := RX.out.at 2 _ rfl
      have p3 := RX.out.at 3 _ rfl
      have p4 := RX.out.at 4 _ rfl
      have p5 := RX.out.at 5 _ rfl
      have p6 := RX.out.at 6 _ rfl
      have p7 := RX.out.at 7 _ rfl
      have p8 := RX.out.at 8 _ rfl
      have r0 := RX.out.2 0
      have r1 := RX.out.2 1
      have r2 := RX.out.2 2
      have r3 := RX.out.2 3
      have r4 := RX.out.2 4
      have r5 := RX.out.2 5
      have r6 := RX.out.2 6
      have r7 := RX.out.2 7
      have r8 := RX.out.2 8
      by_cases hTb : T = t
      · have hc : (T.toList == t.toList) = true := str_yes hTb
        have HY := Lib.hid (HY.out hTb)
        clear hTb HN
        go_wp2
        have bN := below_nine (.bool true) (.int .i64 (hdOf t).v) (.int .i64 (hdOf t).s) (.int .i64 (hdOf t).b) (.int .i64 (hdOf t).l) (.slice aR (sc.recs t).length cR) (.slice aO (sc.recs t).length cO) (.int .i64 (endN t : Int)) (.bool true) B4.out (Nat.le_refl w.heap.size)
        have oN := scan_end HR.out HO.out sW (Nat.le_of_lt sW) (.bool true) (.int .i64 (hdOf t).v) (.int .i64 (hdOf t).s) (.int .i64 (hdOf t).b) (.int .i64 (hdOf t).l) (.slice aR (sc.recs t).length cR) (.slice aO (sc.recs t).length cO) (.int .i64 (endN t : Int)) (.bool true)
        rw [HY.out]
        try simp only [Exit.inBlock, Exit.then]
        refine bodyPost_ret (v := .tuple #[.agg #[.bool true, .int .i64 (hdOf t).v, .int .i64 (hdOf t).s, .int .i64 (hdOf t).b, .int .i64 (hdOf t).l, .slice aR (sc.recs t).length cR, .slice aO (sc.recs t).length cO, .int .i64 (endN t : Int), .bool true], .nilIface]) (by simp [results, Tryz.results89, go_sem, p0, p1, p2, p3, p4, p5, p6, p7, p8]) rfl ⟨⟨_, rfl, ?_⟩, bN⟩
        exact HV.out _ oN
      · have hc : (T.toList == t.toList) = false := str_ne hTb
        have HN := Lib.hid (HN.out hTb)
        clear hTb HY
        go_wp2
        go_region
        go_wp2
        have bN := below_nine (.bool true) (.int .i64 (hdOf t).v) (.int .i64 (hdOf t).s) (.int .i64 (hdOf t).b) (.int .i64 (hdOf t).l) (.slice aR (sc.recs t).length cR) (.slice aO (sc.recs t).length cO) (.int .i64 (endN t : Int)) (.bool true) B4.out (Nat.le_refl w.heap.size)
        have oN := scan_end HR.out HO.out sW (Nat.le_of_lt sW) (.bool true) (.int .i64 (hdOf t).v) (.int .i64 (hdOf t).s) (.int .i64 (hdOf t).b) (.int .i64 (hdOf t).l) (.slice aR (sc.recs t).length cR) (.slice aO (sc.recs t).length cO) (.int .i64 (endN t : Int)) (.bool true)
        rw [HN.out]
        try simp only [Exit.inBlock, Exit.then]
        refine bodyPost_ret (v := .tuple #[.agg #[.bool true, .int .i64 (hdOf t).v, .int .i64 (hdOf t).s, .int .i64 (hdOf t).b, .int .i64 (hdOf t).l, .slice aR (sc.recs t).length cR, .slice aO (sc.recs t).length cO, .int .i64 (endN t : Int), .bool true], errAt c]) (by simp [results, Tryz.results89, go_sem, p0, p1, p2, p3, p4, p5, p6, p7, p8]) rfl ⟨⟨_, rfl, ?_⟩, bN.drew⟩
        exact HV.out _ (scan_drew oN)

end Go.Proofs.YtpibemlganeacaaGreatDoor.sl

namespace Go.Proofs.YtpibemlganeacaaGreatDoor.sl
set_option maxRecDepth 20000
open Go.RowKit
open kit sum num burst hd fr recs sc pl om

theorem beq_dec (a b : Int) : (a == b) = decide (a = b) := by by_cases h : a = b <;> simp [h]
theorem hi_form (b : ByteArray) : ∃ v s p l, sH b = ⟨v, s, p, l⟩ := ⟨_, _, _, _, rfl⟩
end Go.Proofs.YtpibemlganeacaaGreatDoor.sl

namespace Go.Proofs.YtpibemlganeacaaGreatDoor.sl
set_option maxRecDepth 20000
open Go.RowKit
open kit sum num burst hd fr recs sc pl om

set_option maxHeartbeats 4000000 in
set_option maxRecDepth 20000 in
theorem implReadSealed (t : ByteArray) (w : World) (hm : t.size ≤ 1048576) (hg : GE w) :
    Calls Tryz.prog 74 #[.string t] w fun e w' => (∃ u, e = .returned u ∧ RsV w.heap.size w' u t) ∧ Below w.heap.size w w' := by
  have bw := (Below.refl w.heap.size w).alloc (Nat.le_refl _) (.cells #[.int .i64 0, .int .i64 0, .int .i64 0, .int .i64 0] 41)
  have rx := Box.new w #[.int .i64 0, .int .i64 0, .int .i64 0, .int .i64 0] 41
  obtain ⟨W, hW⟩ : ∃ W, W = w.alloc (.cells #[.int .i64 0, .int .i64 0, .int .i64 0, .int .i64 0] 41) := ⟨_, rfl⟩
  rw [← hW] at bw rx
  obtain ⟨a, b, c, _, _, _, _, _, _, h0, h1, h2, _⟩ := hg.below bw
  have CS := Lib.hid (implScanSealed t a b c W hm h0 h1 h2)
  have HYE := Lib.hid (fun h => why_yes (a := a) (b := b) (c := c) (t := t) h)
  have HNO := Lib.hid (fun h => why_no (a := a) (b := b) (c := c) (t := t) h)
  obtain ⟨y, hy⟩ : ∃ y, whyV a b c t = y := ⟨_, rfl⟩
  rw [hy] at CS
  simp only [hy] at HYE HNO
  have B1 := Lib.hid bw
  have RX := Lib.hid rx
  have HW := Lib.hid hW
  clear hW bw rx h0 h1 h2 hy hg
  go_enter Tryz.func74, Tryz.ntmps74
  go_wp2_with (fail)
  rw [← HW.out]
  clear HW
  refine CS.out.mono ?_
  rintro e w2 ⟨⟨v2, rfl, R, O, rfl, rR, rO⟩, b2⟩
  have sW : w.heap.size < W.heap.size := RX.out.lt
  have RX := Lib.hid (RX.out.below b2)
  have s2 : w.heap.size < w2.heap.size := RX.out.lt
  have B2 := Lib.hid (B1.out.trans (b2.mono B1.out.size))
  obtain ⟨aR, cR, rfl, _, _, _⟩ := own_form rR
  obtain ⟨aO, cO, rfl, _, _, _⟩ := own_form rO
  clear b2 B1 CS rO
  have al := (Below.refl w2.heap.size w2).alloc (Nat.le_refl _) (.cells #[.bool (rdH t).isSome, .int .i64 (hdOf t).v, .int .i64 (hdOf t).s, .int .i64 (hdOf t).b, .int .i64 (hdOf t).l, .slice aR (sc.recs t).length cR, .slice aO (sc.recs t).length cO, .int .i64 (endN t : Int), .bool (marked t)] 51)
  have sx := Box.new w2 #[.bool (rdH t).isSome, .int .i64 (hdOf t).v, .int .i64 (hdOf t).s, .int .i64 (hdOf t).b, .int .i64 (hdOf t).l, .slice aR (sc.recs t).length cR, .slice aO (sc.recs t).length cO, .int .i64 (endN t : Int), .bool (marked t)] 51
  obtain ⟨W3, hW3⟩ : ∃ W3, W3 = w2.alloc (.cells #[.bool (rdH t).isSome, .int .i64 (hdOf t).v, .int .i64 (hdOf t).s, .int .i64 (hdOf t).b, .int .i64 (hdOf t).l, .slice aR (sc.recs t).length cR, .slice aO (sc.recs t).length cO, .int .i64 (endN t : Int), .bool (marked t)] 51) := ⟨_, rfl⟩
  rw [← hW3] at al sx
  have RX := Lib.hid (RX.out.below al)
  have HR := Lib.hid (own_below rR al)
  have B3 := Lib.hid (B2.out.trans (al.mono B2.out.size))
  have SX := Lib.hid sx
  have HW3 := Lib.hid hW3
  clear al sx hW3 rR B2
  go_upto_region 2 with fail
  rw [← HW3.out]
  clear HW3
  have ne : w.heap.size ≠ w2.heap.size := by omega
  have p0 := RX.out.at 0 _ rfl
  have p1 := RX.out.at 1 _ rfl
  have p2 := RX.out.at 2 _ rfl
  have p3 := RX.out.at 3 _ rfl
  have r0 := RX.out.2 0
  have r1 := RX.out.2 1
  have r2 := RX.out.2 2
  have r3 := RX.out.2 3
  cases hs : isS t with
  | true =>
    obtain rfl : y = .nilIface := HYE.out hs
    have x1 := SX.out.at 1 _ rfl
    have x2 := SX.out.at 2 _ rfl
    have x3 := SX.out.at 3 _ rfl
    have x4 := SX.out.at 4 _ rfl
    have x5 := SX.out.at 5 _ rfl
    have HS := Lib.hid hs
    clear hs HYE HNO
    go_wp2
    go_region
    go_wp2
    have b4 := Lib.hid (below_four (.int .i64 (hdOf t).v) (.int .i64 (hdOf t).s) (.int .i64 (hdOf t).b) (.int .i64 (hdOf t).l) B3.out (Nat.le_refl w.heap.size)).drew
    have OE := Lib.hid (own_drew (own_base (own_four (r := w.heap.size) (.int .i64 (hdOf t).v) (.int .i64 (hdOf t).s) (.int .i64 (hdOf t).b) (.int .i64 (hdOf t).l) HR.out (fun q hq => by have := (own_block_ge HR.out q hq).1; omega)) (Nat.le_of_lt sW)))
    try simp only [Exit.inBlock, Exit.then]
    refine bodyPost_ret (v := .tuple #[.agg #[.int .i64 (hdOf t).v, .int .i64 (hdOf t).s, .int .i64 (hdOf t).b, .int .i64 (hdOf t).l], .slice aR (sc.recs t).length cR, .bool true]) (by simp [results, Tryz.results74, go_sem, p0, p1, p2, p3]) rfl ⟨⟨_, rfl, ?_⟩, b4.out⟩
    exact RsV.yes HS.out OE.out
  | false =>
    obtain ⟨x, rfl⟩ := HNO.out hs
    have HS := Lib.hid hs
    clear hs HYE HNO
    go_wp2
    have b4 := below_four (.int .i64 0) (.int .i64 0) (.int .i64 0) (.int .i64 0) B3.out (Nat.le_refl w.heap.size)
    try simp only [Exit.inBlock, Exit.then]
    refine bodyPost_ret (v := .tuple #[.agg #[.int .i64 0, .int .i64 0, .int .i64 0, .int .i64 0], .slice none 0 0, .bool false]) (by simp [results, Tryz.results74, go_sem, p0, p1, p2, p3]) rfl ⟨⟨_, rfl, ?_⟩, b4⟩
    exact RsV.no HS.out (World.ownsRow_nil _ _ _ _)

set_option maxHeartbeats 1000000 in
theorem implHeadIn (b : ByteArray) (w : World) (hm : b.size ≤ 1048576) (hg : GE w) :
    Calls Tryz.prog 49 #[.string b] w fun e w' => e = .returned (hiR b) ∧ Below w.heap.size w w' := by
  obtain ⟨v, s, p, l, hv⟩ := hi_form b
  unfold hiR
  obtain ⟨d, hd⟩ : ∃ d, isS b = d := ⟨_, rfl⟩
  rw [hv, hd]
  have bw := (Below.refl w.heap.size w).alloc (Nat.le_refl _) (.cells #[.int .i64 0, .int .i64 0, .int .i64 0, .int .i64 0] 41)
  have rw0 := Box.new w #[.int .i64 0, .int .i64 0, .int .i64 0, .int .i64 0] 41
  obtain ⟨W, hW⟩ : ∃ W, W = w.alloc (.cells #[.int .i64 0, .int .i64 0, .int .i64 0, .int .i64 0] 41) := ⟨_, rfl⟩
  rw [← hW] at bw rw0
  have B1 := Lib.hid bw
  have RX := Lib.hid rw0
  have HW := Lib.hid hW
  clear hW bw rw0
  have CR := Lib.hid (implReadSealed b W hm (hg.below B1.out))
  clear hg
  go_enter Tryz.func49, Tryz.ntmps49
  go_wp2_with fail
  rw [← HW.out]
  refine (CR.out).mono ?_
  rintro e w2 ⟨⟨u, rfl, hu⟩, b2⟩
  obtain ⟨a, c, hu2, _⟩ := hu.form
  rw [hv, hd] at hu2
  subst hu2
  have RX := Lib.hid (RX.out.below b2)
  have s2 : w.heap.size < w2.heap.size := RX.out.lt
  have B2 := Lib.hid (B1.out.trans (b2.mono B1.out.size))
  clear hv hd hu b2 B1 HW
  have r0 := RX.out.2 0
  have r1 := RX.out.2 1
  have r2 := RX.out.2 2
  have r3 := RX.out.2 3
  have p0 := RX.out.at 0 _ rfl
  have p1 := RX.out.at 1 _ rfl
  have p2 := RX.out.at 2 _ rfl
  have p3 := RX.out.at 3 _ rfl
  have ne : w.heap.size ≠ w2.heap.size := by omega
  have b4 := Lib.hid ((below_four (.int .i64 v) (.int .i64 s) (.int .i64 p) (.int .i64 l) B2.out (Nat.le_refl w.heap.size)).alloc (by have := B2.out.size; unfold four; simp; omega) (.cells #[.int .i64 v, .int .i64 s, .int .i64 p, .int .i64 l] 41))
  go_wp2
  try simp only [Exit.inBlock, Exit.then]
  refine bodyPost_ret (v := .tuple #[.agg #[.int .i64 v, .int .i64 s, .int .i64 p, .int .i64 l], .bool d]) (by simp [results, Tryz.results49, go_sem, p0, p1, p2, p3, s2]) rfl ⟨rfl, b4.out⟩
theorem rsT_impl {t : ByteArray} {ver : Int} (h : (rdH t).isSome = true) : rsT t ver = slT (if ver = 0 then hdOf t else { hdOf t with v := ver }) (sc.recs t) := by
  obtain ⟨g, hg⟩ := Option.isSome_iff_exists.1 h
  by_cases hin : 0 ≤ ver ∧ ver ≤ 2
  · rw [rsT_yes hg hin.1 hin.2, hdOf_some hg]
    unfold anew
    by_cases hv : ver = 0
    · rw [if_neg (by omega), if_pos hv]
    · rw [if_pos (by omega), if_neg hv]
  · rw [rsT_no (fun h => hin h.2), if_neg (by omega)]
    refine (slT_no fun h => hin ?_).symm
    have := okH_is.1 h.1
    exact ⟨by have : (1 : Int) ≤ ver := this.1; omega, this.2.1⟩

end Go.Proofs.YtpibemlganeacaaGreatDoor.sl
