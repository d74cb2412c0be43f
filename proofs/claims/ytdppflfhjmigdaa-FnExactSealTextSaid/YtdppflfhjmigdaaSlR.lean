/-
  Contracts of impl's SealText and SealedSize.
-/
import Derived.Test.YtdppflfhjmigdaaMathX
import Derived.Test.YtdppflfhjmigdaaSlP
import Derived.Test.YtdppflfhjmigdaaPlI
import Derived.Test.YtdppflfhjmigdaaFrQ
import Derived.Test.YtdppflfhjmigdaaHdQ
import Derived.Test.YtdppflfhjmigdaaRecQ
namespace Go.Proofs.Ytdppflfhjmigdaa.sl
set_option maxRecDepth 20000
open Go.RowKit
open kit sum num burst hd fr recs sc pl om

theorem made1i (n : Nat) : (madeCells #[.int .i64 0] (n * 1)).toList = (List.replicate n (0 : Int)).map (Value.int .i64) := by
  rw [Nat.mul_one]
  apply List.ext_getElem?
  intro j
  by_cases hj : j < n <;> simp [madeCells, hj, Nat.mod_one]
theorem box_own {w : World} {B g n cap : Nat} {e : TypeId} {xs : List Value} (h : w.ownsRow B e 1 (.slice (some ⟨g, 0, none⟩) n cap) n xs) : Box w g xs := by
  have hl : xs.length = n := by have := h.1; simpa using this
  refine ⟨⟨(own_block_ge h g rfl).2, fun i v hi => ?_⟩, fun j => h.frozenAt j⟩
  have hj : i < n := by rw [← hl]; exact (List.getElem?_eq_some_iff.1 hi).1
  rw [h.cellAt i (by omega), hi]
theorem at_box {w : World} {g n : Nat} {os : List Int} (h : Box w g (os.map (Value.int .i64))) (hl : os.length = n) : ints.At w (some ⟨g, 0, none⟩) n os := by
  refine ⟨hl, .inr ⟨g, 0, rfl, h.lt, fun j x hx => ?_⟩⟩
  rw [Nat.zero_add]
  exact h.at j _ (by rw [List.getElem?_map, hx]; rfl)
theorem one_str (s : ByteArray) : ∀ u ∈ ([.string s] : List Value), u.oneCell' = true := by simp [Value.oneCell']
theorem map_one (P : List ByteArray) (s : ByteArray) : P.map Value.string ++ [.string s] = (P ++ [s]).map Value.string := by simp

set_option maxHeartbeats 4000000 in
theorem implSeal (v s p l : Int) (a : Option Addr) (c n : Nat) (rs : List ByteArray) (w : World) (hm : n ≤ 1048576) (ha : strs.At w a n rs) :
    Calls Try.prog 9 #[.agg #[.int .i64 v, .int .i64 s, .int .i64 p, .int .i64 l], .slice a n c] w fun en w' => en = .returned (.string (slT ⟨v, s, p, l⟩ rs)) ∧ Below w.heap.size w w' := by
  have hlen := ha.1
  have B1 := (Below.refl w.heap.size w).alloc (Nat.le_refl _) (.cells #[.int .i64 v, .int .i64 s, .int .i64 p, .int .i64 l] 27)
  by_cases h1000 : n ≤ 1000
  · have bx := Box.new w #[.int .i64 v, .int .i64 s, .int .i64 p, .int .i64 l] 27
    obtain ⟨W, hW⟩ : ∃ W, W = w.alloc (.cells #[.int .i64 v, .int .i64 s, .int .i64 p, .int .i64 l] 27) := ⟨_, rfl⟩
    rw [← hW] at B1 bx
    have HA := Lib.hid (ha.below B1)
    have B1 := Lib.hid B1
    have BX := Lib.hid bx
    have HW := Lib.hid hW
    have x0 := bx.at 0 _ rfl
    have x1 := bx.at 1 _ rfl
    have x2 := bx.at 2 _ rfl
    have x3 := bx.at 3 _ rfl
    rw [hW] at x0 x1 x2 x3
    have k1 : ¬ (1000 : Int) < (n : Int) := by omega
    obtain ⟨h, hh⟩ : ∃ h : Hd, h = ⟨v, s, p, l⟩ := ⟨_, rfl⟩
    have HE := slT_jn (h := h) (rs := rs) (by omega)
    rw [hlen] at HE
    have CT := Lib.hid (fun w => (implHeadText v s p l w : Calls Try.prog 17 #[.agg #[.int .i64 v, .int .i64 s, .int .i64 p, .int .i64 l]] w fun e w' => e = .returned (.string (hdT ⟨v, s, p, l⟩)) ∧ Below w.heap.size w w'))
    have nT := hdT_le h
    rw [← hh] at CT ⊢
    have HFR := Lib.hid (fun (k : Nat) (r : ByteArray) (e : rs[k]? = some r) => (frm_at (h := h) e : frm h rs k = frT h.v (IntKind.i64.wrap (h.b + (k : Int))) r))
    have CFT := Lib.hid (fun (e : Int) w (hA : ints.At w (some ⟨w.heap.size, 0, none⟩) n (offE h rs n)) => hA)
    clear CFT
    have CFO := Lib.hid (fun (g : Nat) (e : Int) w (hA : ints.At w (some ⟨g, 0, none⟩) n (offE h rs n)) => implFoot v s p l e (some ⟨g, 0, none⟩) n n (offE h rs n) w hm (offE_wf h1000) hA)
    rw [← hh] at CFO
    obtain ⟨T, hT⟩ : ∃ T, hdT h = T := ⟨_, rfl⟩
    rw [hT] at CT nT HE
    have HE := Lib.hid HE
    have HH := Lib.hid hh
    have NT := Lib.hid nT
    obtain ⟨i0, hi, hz0, hz1, hz2⟩ := info_parts strs.Try.infoStr
    obtain ⟨i1, gi, gz0, gz1, gz2⟩ := info_parts ints.Try.infoInt
    clear bx hW ha hh hT nT
    go_enter Try.func9, Try.ntmps9
    go_wp2_with (fail)
    rw [← HW.out]
    refine (CT.out _).mono ?_
    rintro en w1 ⟨rfl, b1⟩
    have BX := Lib.hid (BX.out.below b1)
    have HA := Lib.hid (HA.out.below b1)
    have B1 := Lib.hid (B1.out.trans (b1.mono B1.out.size))
    clear b1 x0 x1 x2 x3 CT HW
    have b2 := (Below.refl w1.heap.size w1).alloc (Nat.le_refl _) (.cells #[.string T] 9)
    obtain ⟨W2, hW2⟩ : ∃ W2, W2 = w1.alloc (.cells #[.string T] 9) := ⟨_, rfl⟩
    have o2 : W2.ownsRow w1.heap.size 9 1 (.slice (some ⟨w1.heap.size, 0, none⟩) 1 1) 1 ([T].map Value.string) := by
      rw [hW2]
      exact ⟨rfl, .inr ⟨w1.heap.size, 1, #[.string T], rfl, Nat.le_refl _, heap_alloc_new w1 _, Nat.le_refl _, by decide, rfl, rfl⟩⟩
    rw [← hW2] at b2
    have z2 : W2.heap.size = w1.heap.size + 1 := by rw [hW2]; simp
    have O2 := Lib.hid o2
    have B2 := Lib.hid b2
    have HW2 := Lib.hid hW2
    have lt1 := Lib.hid BX.out.lt
    clear b2 o2 hW2
    go_upto_region 4 with fail
    rw [← HW2.out]
    clear HW2
    go_wp2_with (refine wpList_make_full _ (by rfl) _ _ 36 (by rfl) W2.heap.size 3 i1 (.int .i64 0) 1 Try.underlying36 gi gz0 gz1 .i64 .i64 _ _ n (by rfl) (by rfl) ?_ ?_ ?_ ?_ ?_ ?_; (first | rfl | omega); (first | rfl | omega); (rw [gz2]; omega); (unfold maxLen; omega); exact Nat.le_refl _; intro w3 hown3 hg3)
    have hb3 : Below W2.heap.size W2 w3 := (Below.refl _ _).grown hg3 (Nat.le_refl _) (fun k hk => by cases hk)
    rw [show (Value.int .i64 0).cells = #[.int .i64 0] from rfl, made1i] at hown3
    have XO := Lib.hid (box_own hown3)
    have gg := (own_block_ge hown3 W2.heap.size rfl).2
    have B3 := Lib.hid (B2.out.trans (hb3.mono (by omega)))
    have O3 := Lib.hid (own_below O2.out hb3)
    have X3 := Lib.hid (BX.out.below B3.out)
    clear hown3 hg3 hb3 O2 B2 BX
    rw [z2] at XO gg
    obtain ⟨g, hg⟩ : ∃ g, w1.heap.size + 1 = g := ⟨_, rfl⟩
    rw [hg] at XO gg ⊢
    have HGG := Lib.hid hg
    clear z2 hg
    go_wp2
    go_loopw [5, 7, 22] (fun sv ev i wr => ∃ k : Nat, k ≤ n ∧ i = .int .i64 k ∧ ev = .int .i64 ((ends h rs k : Nat) : Int) ∧ Hid (wr.ownsRow w1.heap.size 9 1 sv (k + 1) ((T :: frms h rs k).map Value.string)) ∧ Hid (∀ q, sv.ownBlock = some q → q ≠ g) ∧ Hid (Box wr g (((offE h rs n).take k ++ List.replicate (n - k) 0).map (Value.int .i64))) ∧ Hid (Box wr w.heap.size [.int .i64 v, .int .i64 s, .int .i64 p, .int .i64 l]) ∧ Hid (Below w1.heap.size w1 wr)) (fun _ _ i _ => n - (intOf i).toNat)
    case atStart => exact ⟨0, Nat.zero_le _, rfl, rfl, O3, Lib.hid (fun q hq => by simp only [Value.ownBlock, Option.some.injEq] at hq; have := HGG.out; omega), Lib.hid (by simpa using XO.out), X3, B3⟩
    case round =>
      obtain ⟨k, hk, rfl, rfl, OO, HQ, HO, HB, hb⟩ := hrel
      have hend := ends_le h rs k
      by_cases hlt : k < n
      · obtain ⟨x, hxk⟩ : ∃ x, rs[k]? = some x := ⟨_, List.getElem?_eq_getElem (by omega)⟩
        obtain ⟨gr, o, rfl, hgr, hx⟩ := HA.out.2.resolve_left (by omega)
        have c1 := (hb.out.cell (p := ⟨gr, o + k, none⟩) hgr).trans (hx k x hxk)
        have y0 := HB.out.at 0 _ rfl
        have y2 := HB.out.at 2 _ rfl
        have j0 : (0 : Int) ≤ (k : Int) := by omega
        have j1 : (k : Int) < (n : Int) := by omega
        have hF := HFR.out k x hxk
        rw [HH.out] at hF
        have CF := Lib.hid (fun w => implFrame_all v (IntKind.i64.wrap (p + (k : Int))) x w)
        rw [show frT v (IntKind.i64.wrap (p + (k : Int))) x = frm ⟨v, s, p, l⟩ rs k from hF.symm, ← HH.out] at CF
        have CF : Hid (∀ w : World, Calls Try.prog 18 #[.int .i64 v, .int .i64 (RowKit.wrap64 (p + (k : Int))), .string x] w fun e w' => e = .returned (.string (frm h rs k)) ∧ Below w.heap.size w w') := Lib.hid (fun w => by
          rw [show RowKit.wrap64 (p + (k : Int)) = IntKind.i64.wrap (p + (k : Int)) from by rw [IntKind.wrap_i64]; unfold RowKit.wrap64; rfl]
          exact CF.out w)
        have HN := Lib.hid (frms_next h rs k)
        have HS := Lib.hid (fill_set2 (offE h rs n) 0 _ n k (offE_length h rs n) hlt (offE_at hlt))
        have HEN := Lib.hid (show ends h rs (k + 1) = ends h rs k + (frm h rs k).size from rfl)
        have hF2 := frm_le h rs k
        obtain ⟨F, hFF⟩ : ∃ F, frm h rs k = F := ⟨_, rfl⟩
        rw [hFF] at CF HN HEN hF2
        have hl : k < (((offE h rs n).take k ++ List.replicate (n - k) 0).map (Value.int .i64)).length := by simp [offE_length]; omega
        have HLL := Lib.hid hl
        obtain ⟨E, hE⟩ : ∃ E, ends h rs k = E := ⟨_, rfl⟩
        rw [hE] at HS HEN hend ⊢
        clear hxk hx hF hFF hl hE
        go_wp2_with (fail)
        refine (CF.out _).mono ?_
        rintro en w4 ⟨rfl, b4⟩
        have O4 := Lib.hid (own_below OO.out b4)
        have XO4 := Lib.hid (HO.out.below b4)
        have XH4 := Lib.hid (HB.out.below b4)
        have B4 := Lib.hid (hb.out.trans (b4.mono hb.out.size))
        have sg := XO4.out.lt
        clear b4 OO HO HB hb y0 y2 c1 CF
        go_wp2_with (at_builtin; refine list_appN3 (by rfl) (.tmp 35) (.tmp 37) 24 (by rfl) w1.heap.size w4 9 i0 (.string { data := #[] }) 1 16 Try.underlying24 hi hz0 hz1 hz2 (by rfl) (by decide) _ (k + 1) _ O4.out B4.out.size [.string F] 1 (by decide) rfl (one_str F) ?_ ?_ (by rfl) (by rfl) (by rfl) ?_; (unfold maxLen; omega); omega; intro v5 w5 o5 g5 q5; have XO5 := Lib.hid (XO4.out.grown g5 (fun e => HQ.out _ e rfl)); obtain ⟨u0, c0⟩ : ∃ u, w5.cell? ⟨g, k, none⟩ = some u := ⟨_, XO5.out.at k _ (List.getElem?_eq_getElem HLL.out)⟩; have f0 := XO5.out.2 k)
        have XH5 := Lib.hid (XH4.out.grown g5 (fun e => by have := (own_block_ge O4.out _ e).1; have := lt1.out; omega))
        have B5 := Lib.hid (B4.out.grown g5 B4.out.size (fun q hq => (own_block_ge O4.out q hq).1))
        have O5 := Lib.hid o5
        have Q5 := Lib.hid (fun q (hq : v5.ownBlock = some q) => (q5 q hq).elim (fun e => HQ.out q e) (fun (e : w4.heap.size ≤ q) => by omega))
        clear o5 g5 q5 HQ O4 XO4 XH4 B4
        go_roundw
        case rel =>
          refine ⟨k + 1, by omega, by go_num, ?_, Lib.hid ?_, Q5, Lib.hid ?_, Lib.hid (XH5.out.far k (.int .i64 (E : Int)) (by have := lt1.out; have := HGG.out; omega)), Lib.hid (B5.out.setCell (p := ⟨g, k, none⟩) (by have := HGG.out; show w1.heap.size ≤ g; omega) _)⟩
          · rw [HEN.out]; go_num
          · rw [HN.out, ← List.cons_append, ← map_one]
            exact own_setOther O5.out g k _ (fun e => Q5.out g e rfl)
          · rw [← HS.out, List.map_set]
            exact XO5.out.set k (.int .i64 (E : Int)) HLL.out
        case measure => simp [intOf]; omega
      · obtain rfl : k = n := by omega
        have y0 := HB.out.at 0 _ rfl
        have y1 := HB.out.at 1 _ rfl
        have y2 := HB.out.at 2 _ rfl
        have y3 := HB.out.at 3 _ rfl
        have HT := Lib.hid (show (offE h rs k).take k ++ List.replicate (k - k) 0 = offE h rs k by
          rw [Nat.sub_self, List.replicate_zero, List.append_nil, List.take_of_length_le (by rw [offE_length]; exact Nat.le_refl _)])
        rw [HT.out] at HO
        have HAO := Lib.hid (at_box HO.out (offE_length h rs k))
        have CF := Lib.hid (fun w hA => CFO.out g ((ends h rs k : Nat) : Int) w hA)
        have hft := ftT_le h (offE h rs k) ((ends h rs k : Nat) : Int)
        rw [offE_length] at hft
        obtain ⟨F, hF⟩ : ∃ F, ftT h (offE h rs k) ((ends h rs k : Nat) : Int) = F := ⟨_, rfl⟩
        rw [hF] at CF HE hft
        obtain ⟨E, hE⟩ : ∃ E, ends h rs k = E := ⟨_, rfl⟩
        rw [hE] at CF hend ⊢
        have HFL := Lib.hid (frms_le h rs k)
        have HFN := Lib.hid (frms_length h rs k)
        clear hF hE CFO
        go_wp2_with (fail)
        refine (CF.out _ HAO.out).mono ?_
        rintro en w4 ⟨rfl, b4⟩
        have O4 := Lib.hid (own_below OO.out b4)
        have B4 := Lib.hid (hb.out.trans (b4.mono hb.out.size))
        clear b4 OO HO HB hb y0 y1 y2 y3 CF HAO
        go_wp2_with (at_builtin; refine list_appN3 (by rfl) (.tmp 48) (.tmp 53) 24 (by rfl) w1.heap.size w4 9 i0 (.string { data := #[] }) 1 16 Try.underlying24 hi hz0 hz1 hz2 (by rfl) (by decide) _ (k + 1) _ O4.out B4.out.size [.string F] 1 (by decide) rfl (one_str F) ?_ ?_ (by rfl) (by rfl) (by rfl) ?_; (unfold maxLen; omega); omega; intro v5 w5 o5 g5 q5)
        rw [map_one] at o5
        have B5 := Lib.hid (B4.out.grown g5 B4.out.size (fun q hq => (own_block_ge O4.out q hq).1))
        obtain ⟨g6, c6, rfl, hlen6, hcap6, hg6, hcells6⟩ := own_cells_at o5 (by omega)
        have CJ := Lib.hid (joined g6 0 c6 (k + 1 + 1) (T :: frms h rs k ++ [F]) w5 hlen6 hcap6 hg6 hcells6 (by omega) (fun x hx => by
          rcases List.mem_append.1 hx with hx | hx
          · rcases List.mem_cons.1 hx with rfl | hx
            · have := NT.out; omega
            · have := HFL.out x hx; omega
          · obtain rfl := List.mem_singleton.1 hx
            omega))
        clear o5 g5 q5 hlen6 hcap6 hg6 hcells6 O4 B4
        go_wp2_with (fail)
        refine CJ.out.mono ?_
        rintro en w6 ⟨rfl, b6⟩
        go_wp2
        go_ret
        exact ⟨by rw [HE.out]; rfl, B1.out.trans ((B5.out.trans (b6.mono B5.out.size)).mono B1.out.size)⟩
  · have k1 : (1000 : Int) < (n : Int) := by omega
    have HE := Lib.hid (slT_no (h := ⟨v, s, p, l⟩) (rs := rs) fun h => by have h3 := h.2.1; omega)
    clear ha hlen
    go_enter Try.func9, Try.ntmps9
    go_wp2
    go_ret
    exact ⟨by rw [HE.out]; rfl, B1⟩

theorem implSealedSize (v s p l : Int) (a : Option Addr) (c n : Nat) (rs : List ByteArray) (w : World) (hm : n ≤ 1048576) (ha : strs.At w a n rs) :
    Calls Try.prog 12 #[.agg #[.int .i64 v, .int .i64 s, .int .i64 p, .int .i64 l], .slice a n c] w fun e w' => e = .returned (.int .i64 (((slT ⟨v, s, p, l⟩ rs).size : Nat) : Int)) ∧ Below w.heap.size w w' := by
  obtain ⟨W, hW⟩ : ∃ W, W = w.alloc (.cells #[.int .i64 v, .int .i64 s, .int .i64 p, .int .i64 l] 27) := ⟨_, rfl⟩
  have hb : Below w.heap.size w W := by rw [hW]; exact (Below.refl _ _).alloc (Nat.le_refl _) _
  have bx : Box W w.heap.size [.int .i64 v, .int .i64 s, .int .i64 p, .int .i64 l] := by rw [hW]; exact Box.new w _ _
  have CS := Lib.hid (implSeal v s p l a c n rs W hm (ha.below hb))
  have HB := Lib.hid hb
  have x0 := bx.at 0 _ rfl
  have x1 := bx.at 1 _ rfl
  have x2 := bx.at 2 _ rfl
  have x3 := bx.at 3 _ rfl
  rw [hW] at x0 x1 x2 x3
  have HW := Lib.hid hW
  have hle := slT_le ⟨v, s, p, l⟩ rs
  obtain ⟨T, hT⟩ : ∃ T, slT ⟨v, s, p, l⟩ rs = T := ⟨_, rfl⟩
  rw [hT] at CS hle ⊢
  clear hW hb bx hT ha
  go_enter Try.func12, Try.ntmps12
  go_wp2_with (fail)
  rw [← HW.out]
  refine CS.out.mono ?_
  rintro e w1 ⟨rfl, b1⟩
  go_wp2
  go_ret
  exact ⟨rfl, HB.out.trans (b1.mono HB.out.size)⟩

end Go.Proofs.Ytdppflfhjmigdaa.sl
