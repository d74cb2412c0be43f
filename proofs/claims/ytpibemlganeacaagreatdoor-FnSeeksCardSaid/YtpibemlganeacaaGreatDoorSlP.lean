/-
  Contract of spec.SealText.
-/
import Derived.Test.YtpibemlganeacaaGreatDoorMathX
import Derived.Test.YtpibemlganeacaaGreatDoorPlV
import Derived.Test.YtpibemlganeacaaGreatDoorOwnM
import Derived.Deep.RegionHeld3
import Derived.Test.YtpibemlganeacaaGreatDoorScP
namespace Go.Proofs.YtpibemlganeacaaGreatDoor.sl
set_option maxRecDepth 20000
open Go.RowKit
open kit sum num burst hd fr recs sc pl om

theorem offL_take {h : Hd} {rs : List ByteArray} {k : Nat} (hk : k < rs.length) : (offL h rs).take (k + 1) = (offL h rs).take k ++ [((tx h rs k).size : Int)] := by
  rw [List.take_add_one, offL_at hk]
  rfl
theorem offL_wf {h : Hd} {rs : List ByteArray} (hn : rs.length ≤ 1000) : ∀ o ∈ offL h rs, i64 o := by
  intro o ho
  unfold offL at ho
  obtain ⟨i, hi, rfl⟩ := List.mem_map.1 ho
  have h1 := tx_le72 h rs i
  have h2 := List.mem_range.1 hi
  unfold i64
  omega
theorem specHeadTextL (v s b l : Int) (w : World) : Calls Tryz.prog 38 #[.agg #[.int .i64 v, .int .i64 s, .int .i64 b, .int .i64 l]] w fun e w' => e = .returned (.string (hdT ⟨v, s, b, l⟩)) ∧ Below w.heap.size w w' := specHeadText v s b l w
theorem offM_type {w : World} {B B' s n n' : Nat} {e e' : TypeId} {u v : Value} {xs ys : List Value} (hu : ownM w B e u n xs) (hv : w.ownsRow B' e' s v n' ys) (hne : e ≠ e') : Off u v := fun g h1 h2 => by
  obtain ⟨_, g1, c1, cur1, fz, rfl, _, k1, _⟩ := hu
  rcases hv.2 with ⟨rfl, _⟩ | ⟨g2, c2, cur2, rfl, _, k2, _⟩
  · simp [Value.ownBlock] at h2
  simp only [Value.ownBlock, Option.some.injEq] at h1 h2
  subst h1
  subst h2
  rw [k1] at k2
  simp only [Option.some.injEq] at k2
  injection k2 with _ h
  exact hne h
theorem ownM_grown {w w' : World} {B : Nat} {e : TypeId} {v u : Value} {n : Nat} {xs : List Value} (h : ownM w B e v n xs) (hg : w.grownBy w' u.ownBlock) (ho : Off v u) : ownM w' B e v n xs :=
  h.kept hg fun e => by
    obtain ⟨g, c, rfl, _⟩ := h.form
    exact ho g rfl (e.symm.trans rfl)
theorem Tryz.infoU8 : (Tryz.prog.info? 5).map (fun i => (i.zero, i.size, i.bytes)) = some (some (.int .u8 0), 1, 1) := by kernel_rfl
theorem Tryz.infoInt : (Tryz.prog.info? 3).map (fun i => (i.zero, i.size, i.bytes)) = some (some (.int .i64 0), 1, 8) := by kernel_rfl

theorem ownM_drew {w : World} {B : Nat} {e : TypeId} {v : Value} {n : Nat} {xs : List Value} (h : ownM w B e v n xs) : ownM w.drew B e v n xs := h
theorem own_drew {w : World} {B size : Nat} {e : TypeId} {v : Value} {n : Nat} {xs : List Value} (h : w.ownsRow B e size v n xs) : w.drew.ownsRow B e size v n xs := h
set_option maxHeartbeats 4000000 in
theorem specSeal (v s p l : Int) (a : Option Addr) (c n : Nat) (rs : List ByteArray) (w : World) (hm : n ≤ 1048576) (ha : strs.At w a n rs) :
    Calls Tryz.prog 18 #[.agg #[.int .i64 v, .int .i64 s, .int .i64 p, .int .i64 l], .slice a n c] w fun en w' => en = .returned (.string (slT ⟨v, s, p, l⟩ rs)) ∧ Below w.heap.size w w' := by
  have hlen := ha.1
  have B1 := (Below.refl w.heap.size w).alloc (Nat.le_refl _) (.cells #[.int .i64 v, .int .i64 s, .int .i64 p, .int .i64 l] 41)
  have bx := Box.new w #[.int .i64 v, .int .i64 s, .int .i64 p, .int .i64 l] 41
  obtain ⟨W, hW⟩ : ∃ W, W = w.alloc (.cells #[.int .i64 v, .int .i64 s, .int .i64 p, .int .i64 l] 41) := ⟨_, rfl⟩
  rw [← hW] at B1 bx
  have HA := Lib.hid (ha.below B1)
  have B1 := Lib.hid B1
  have BX := Lib.hid bx
  have HW := Lib.hid hW
  have x0 := bx.at 0 _ rfl
  have x1 := bx.at 1 _ rfl
  have x2 := bx.at 2 _ rfl
  have x3 := bx.at 3 _ rfl
  rw [hW] at x0 x1 x2 x3
  have CK := Lib.hid (specHeadOk v s p l W)
  clear bx hW ha
  cases hk : okH ⟨v, s, p, l⟩ with
  | false =>
    have HE := Lib.hid (slT_no (h := ⟨v, s, p, l⟩) (rs := rs) fun h => by have := h.1; rw [hk] at this; cases this)
    rw [hk] at CK
    clear hk
    go_enter Tryz.func18, Tryz.ntmps18
    go_wp2_with (fail)
    rw [← HW.out]
    refine CK.out.mono ?_
    rintro en w2 ⟨rfl, b2⟩
    go_wp2
    go_ret
    exact ⟨by rw [HE.out]; rfl, B1.out.trans (b2.mono B1.out.size)⟩
  | true =>
    have hs : 1 ≤ s ∧ s ≤ 20 ∧ 0 ≤ p ∧ p ≤ 1000000000 := by
      have h := okH_is.1 hk
      exact ⟨h.2.2.1, h.2.2.2.1, h.2.2.2.2.1, h.2.2.2.2.2.1⟩
    obtain ⟨s0, s1, p0, p1⟩ := hs
    rw [hk] at CK
    by_cases h1000 : n ≤ 1000
    · by_cases hmax : p + (n : Int) ≤ 1000000000
      · have k1 : ¬ (1000 : Int) < (n : Int) := by omega
        have k2 : ¬ (1000000000 : Int) < p + (n : Int) := by omega
        have HK := Lib.hid (fun (h : ∀ r ∈ rs, r.size ≤ 60) => (⟨hk, by omega, by rw [hlen]; exact hmax, h⟩ : okS ⟨v, s, p, l⟩ rs))
        have hN := Lib.hid (slT_no (h := ⟨v, s, p, l⟩) (rs := rs))
        obtain ⟨h, hh⟩ : ∃ h : Hd, h = ⟨v, s, p, l⟩ := ⟨_, rfl⟩
        have CT := Lib.hid (fun w => specHeadTextL v s p l w)
        have nT := hdT_size hk
        rw [← hh] at HK hN CT nT hk ⊢
        have HH := Lib.hid hh
        have ht0 : tx h rs 0 = hdT h := rfl
        obtain ⟨T0, hT0⟩ : ∃ T0, hdT h = T0 := ⟨_, rfl⟩
        rw [hT0] at CT nT ht0
        have kc := fun (w : World) => run_bytes_of_string (P := Tryz.prog) w 9 22 5 T0 Tryz.underlying9 Tryz.underlying22 Tryz.underlying5
        have HT0 := Lib.hid ht0
        clear hT0 hh ht0 hk
        obtain ⟨i0, hi, hz0, hz1, hz2⟩ := info_parts Tryz.infoU8
        obtain ⟨i1, gi, gz0, gz1, gz2⟩ := info_parts Tryz.infoInt
        go_enter Tryz.func18, Tryz.ntmps18
        go_wp2_with (fail)
        rw [← HW.out]
        refine CK.out.mono ?_
        rintro en w2 ⟨rfl, b2⟩
        have HA := Lib.hid (HA.out.below b2)
        have B2 := Lib.hid (B1.out.trans (b2.mono B1.out.size))
        have BX := Lib.hid (BX.out.below b2)
        clear b2 x0 x1 x2 x3
        have x0 := BX.out.at 0 _ rfl
        have x1 := BX.out.at 1 _ rfl
        have x2 := BX.out.at 2 _ rfl
        have x3 := BX.out.at 3 _ rfl
        go_wp2_with (fail)
        refine (CT.out _).mono ?_
        rintro en w3 ⟨rfl, b3⟩
        have HA := Lib.hid (HA.out.below b3)
        have B3 := Lib.hid (B2.out.trans (b3.mono B2.out.size))
        have BX := Lib.hid (BX.out.below b3)
        clear b3 x0 x1 x2 x3
        have g3 : w.heap.size < w3.heap.size := BX.out.lt
        have M0 := ownM_made w3 w3.heap.size 5 T0 (Nat.le_refl _) (by rw [nT]; decide)
        have kc3 := kc w3
        rw [nT] at M0 kc3
        clear kc
        obtain ⟨c0, hc0⟩ : ∃ c0, grownCap w3 24 0 5 = c0 := ⟨_, rfl⟩
        rw [hc0] at M0 kc3
        obtain ⟨A, hA⟩ : ∃ A, Obj.cells (bytesRow T0 c0) 5 ((bytesRow T0 c0).size, (bytesRow T0 c0).size + 1) = A := ⟨_, rfl⟩
        rw [hA] at M0 kc3
        have M0 : ownM (w3.alloc A) w3.heap.size 5 (.slice (some ⟨w3.heap.size, 0, none⟩) 24 c0) 24 (Lib.strCells T0) := M0
        have O0 : ((w3.alloc A).alloc (.cells #[] 3)).ownsRow w3.heap.size 3 1 (.slice (some ⟨(w3.alloc A).heap.size, 0, none⟩) 0 0) 0 [] := World.ownsRow_made _ _ _ (by simp) (by decide) rfl
        have M0 := M0.kept (World.grownBy_alloc (w3.alloc A) (.cells #[] 3) none) (by simp [Value.ownBlock])
        have b5 := ((Below.refl w3.heap.size w3).alloc (Nat.le_refl _) A).alloc (by simp) (.cells #[] 3)
        have z4 : (w3.alloc A).heap.size = w3.heap.size + 1 := by simp
        rw [z4] at O0
        have M0 := Lib.hid (ownM_drew M0)
        have O0 := Lib.hid (own_drew O0)
        have B0 := Lib.hid b5.drew
        clear hA b5 z4
        go_wp2
        clear kc3
        obtain ⟨W5, hW5⟩ : ∃ W5, W5 = ((w3.alloc A).alloc (.cells #[] 3)).drew := ⟨_, rfl⟩
        rw [← hW5] at M0 O0 B0 ⊢
        clear hW5 hc0
        go_loopw [5, 6, 7] (fun sv ov i wr => ∃ k : Nat, k ≤ n ∧ i = .int .i64 k ∧ Hid (∀ (j : Nat) (r : ByteArray), j < k → rs[j]? = some r → r.size ≤ 60) ∧ Hid (ownM wr w3.heap.size 5 sv (tx h rs k).size (Lib.strCells (tx h rs k))) ∧ Hid (wr.ownsRow w3.heap.size 3 1 ov k (((offL h rs).take k).map (Value.int .i64))) ∧ Hid (Below w3.heap.size w3 wr)) (fun _ _ i _ => n - (intOf i).toNat)
        case atStart => exact ⟨0, Nat.zero_le _, rfl, Lib.hid (fun j r hj => absurd hj (Nat.not_lt_zero _)), Lib.hid (by rw [HT0.out, nT]; exact M0.out), O0, B0⟩
        case round =>
          obtain ⟨k, hk, rfl, HS, HM, HO, hb⟩ := hrel
          have b0 := hb.out.size
          have htx := tx_le72 h rs k
          by_cases hlt : k < n
          · obtain ⟨x, hxk⟩ : ∃ x, rs[k]? = some x := ⟨_, List.getElem?_eq_getElem (by omega)⟩
            have HXK := Lib.hid hxk
            obtain ⟨gr, o, rfl, hgr, hx⟩ := HA.out.2.resolve_left (by omega)
            have c1 := (hb.out.cell (p := ⟨gr, o + k, none⟩) hgr).trans (hx k x hxk)
            have j0 : (0 : Int) ≤ (k : Int) := by omega
            have j1 : (k : Int) < (n : Int) := by omega
            by_cases h60 : x.size ≤ 60
            · have k60 : ¬ (60 : Int) < (x.size : Int) := by omega
              have HTN := Lib.hid (tx_next (h := h) hxk)
              have HOT := Lib.hid (offL_take (h := h) (rs := rs) (k := k) (by omega))
              have CF := Lib.hid (fun w => specFrame_any v (p + (k : Int)) x w (by omega))
              have hF := frT_le v (p + (k : Int)) x
              rw [show frT h.v (h.b + (k : Int)) x = frT v (p + (k : Int)) x by rw [HH.out]] at HTN
              obtain ⟨F, hFF⟩ : ∃ F, frT v (p + (k : Int)) x = F := ⟨_, rfl⟩
              rw [hFF] at HTN CF hF
              have hwr : IntKind.i64.wrap (p + (k : Int)) = p + (k : Int) := by rw [IntKind.wrap_i64]; omega
              have CF : Hid (∀ w : World, Calls Tryz.prog 39 #[.int .i64 v, .int .i64 (IntKind.i64.wrap (p + (k : Int))), .string x] w fun e w' => e = .returned (.string F) ∧ Below w.heap.size w w') := Lib.hid (fun w => by rw [hwr]; exact CF.out w)
              clear hwr
              obtain ⟨m, hm'⟩ : ∃ m, (tx h rs k).size = m := ⟨_, rfl⟩
              rw [hm'] at HOT htx
              have HM := HM
              rw [hm'] at HM
              have HMM := Lib.hid hm'
              obtain ⟨g1, c1', rfl, _, _, _⟩ := HM.out.form
              have HX3 := Lib.hid (BX.out.below hb.out)
              have hxcell := Lib.hid (hx k x hxk)
              clear hxk hx hFF hm'
              go_wp2_with (at_builtin; refine list_app3 (by rfl) (.tmp 40) (.tmp 43) 49 (by rfl) w3.heap.size wr 3 i1 (.int .i64 0) 8 Tryz.underlying49 gi gz0 gz1 gz2 (by rfl) _ k _ HO.out b0 [.int .i64 (m : Int)] 1 ?_ ?_ ?_ ?_ (by rfl) (by rfl) ?_ ?_; rfl; simp [Value.oneCell']; unfold maxLen; omega; omega; rfl; intro v4 w4 o4 g4)
              have hb4 : Below w3.heap.size w3 w4.drew := (hb.out.grown g4 b0 fun q hq => (own_block_ge HO.out q hq).1).drew
              have o4 : w4.drew.ownsRow w3.heap.size 3 1 v4 (k + 1) (((offL h rs).take k).map (Value.int .i64) ++ [.int .i64 (m : Int)]) := o4
              have HM4 := Lib.hid (ownM_drew (ownM_grown HM.out g4 (offM_type HM.out HO.out (by decide))))
              have HX4 := BX.out.below hb4
              have x0 : w4.drew.cell? ⟨w.heap.size, 0, none⟩ = some (.int .i64 v) := HX4.at 0 _ rfl
              have x2 : w4.drew.cell? ⟨w.heap.size, 2, none⟩ = some (.int .i64 p) := HX4.at 2 _ rfl
              have x4 : w4.drew.cell? ⟨gr, o + k, none⟩ = some (.string x) := (hb4.cell (p := ⟨gr, o + k, none⟩) hgr).trans hxcell.out
              have lt4 : w.heap.size < w4.drew.heap.size := HX4.lt
              have lt5 : gr < w4.drew.heap.size := Nat.lt_of_lt_of_le hgr hb4.size
              have HB4 := Lib.hid hb4
              have sz4 : w3.heap.size ≤ w4.drew.heap.size := hb4.size
              clear hb4 HX4 c1
              go_region_held3 (fun w' => w'.cell? ⟨w.heap.size, 0, none⟩ = some (.int .i64 v) ∧ w'.cell? ⟨w.heap.size, 2, none⟩ = some (.int .i64 p) ∧ w'.cell? ⟨gr, o + k, none⟩ = some (.string x)) (first | with_reducible exact ⟨x0, x2, x4⟩ | with_reducible exact ⟨d0, d2, d4⟩ | with_reducible exact ⟨f0, f2, f4⟩) (first | (go_at_call 39; with_reducible refine (CF.out _).mono ?_; rintro e w5 ⟨rfl, b5⟩; have d0 := (b5.cell (p := ⟨w.heap.size, 0, none⟩) lt4).trans x0; have d2 := (b5.cell (p := ⟨w.heap.size, 2, none⟩) lt4).trans x2; have d4 := (b5.cell (p := ⟨gr, o + k, none⟩) lt5).trans x4; have HM5 := Lib.hid (HM4.out.below b5); have HB5 := Lib.hid (HB4.out.trans (b5.mono HB4.out.size)); have HO5 := Lib.hid (own_below o4 b5)) | (refine step_append_own_stringM (by rfl) (.tmp 45) (.tmp 56) 22 9 (by rfl) w3.heap.size 5 i0 Tryz.underlying22 Tryz.underlying9 hi hz0 hz1 hz2 _ m _ (by rfl) HM5.out F (by rfl) ?_ ?_ ?_ ?_; unfold maxLen; omega; omega; exact HB5.out.size; intro v6 w6 o6 g6 b6; have HB6 := HB5.out.grown g6 HB5.out.size (fun q hq => (HM5.out.lt q hq).1); have HX6 := BX.out.below HB6; have f0 : w6.cell? ⟨w.heap.size, 0, none⟩ = some (.int .i64 v) := HX6.at 0 _ rfl; have f2 : w6.cell? ⟨w.heap.size, 2, none⟩ = some (.int .i64 p) := HX6.at 2 _ rfl; have f4 : w6.cell? ⟨gr, o + k, none⟩ = some (.string x) := (HB6.cell (p := ⟨gr, o + k, none⟩) hgr).trans hxcell.out))
              have HM6 : Hid (ownM w6 w3.heap.size 5 v6 (tx h rs (k + 1)).size (Lib.strCells (tx h rs (k + 1)))) := Lib.hid (by
                rw [HTN.out, ByteArray.size_append, HMM.out, ← strCells_app]
                exact o6)
              have HO6 := own_grown HO5.out g6 (fun g h1 h2 => offM_type HM5.out HO5.out (by decide) g h2 h1)
              have HO6 : Hid (w6.ownsRow w3.heap.size 3 1 v4 (k + 1) (((offL h rs).take (k + 1)).map (Value.int .i64))) := Lib.hid (by
                rw [HOT.out, List.map_append]
                exact HO6)
              have HB6 := Lib.hid HB6
              have HS6 : Hid (∀ (j : Nat) (r : ByteArray), j < k + 1 → rs[j]? = some r → r.size ≤ 60) := Lib.hid (fun j r hj hr => by
                by_cases e : j = k
                · subst e
                  rw [HXK.out] at hr
                  obtain rfl : x = r := by simpa using hr
                  exact h60
                · exact HS.out j r (by omega) hr)
              clear f0 f2 f4 d0 d2 d4 x0 x2 x4 o6 g6 b6 o4
              go_wp2
              go_roundw
              case rel => exact ⟨k + 1, by omega, by go_num, HS6, HM6, HO6, HB6⟩
              case measure => simp [intOf]; omega
            · have k60 : (60 : Int) < (x.size : Int) := by omega
              have HE := Lib.hid (hN.out fun hS => h60 (hS.2.2.2 x (List.mem_of_getElem? HXK.out)))
              clear hxk hx
              go_wp2
              go_ret
              exact ⟨by rw [HE.out]; rfl, B3.out.trans (hb.out.mono B3.out.size)⟩
          · obtain rfl : k = n := by omega
            have hall : ∀ r ∈ rs, r.size ≤ 60 := fun r hr => by
              obtain ⟨j, hj, e⟩ := List.getElem_of_mem hr
              exact HS.out j r (by omega) (by rw [List.getElem?_eq_getElem hj, e])
            have HE := Lib.hid (slT_yes (HK.out hall))
            have hft := ftT_le h (offL h rs) ((tx h rs k).size : Int)
            rw [offL_length, hlen] at hft
            rw [hlen] at HE
            have hend : (offL h rs).take k = offL h rs := List.take_of_length_le (by rw [offL_length, hlen]; exact Nat.le_refl _)
            rw [hend] at HO
            have hwf := Lib.hid (offL_wf (h := h) (rs := rs) (by omega))
            obtain ⟨ao, co, rfl, _, _, _⟩ := own_form HO.out
            have HAO := Lib.hid (ints.At.of_own HO.out)
            have CF := Lib.hid (fun (e : Int) w (hA : ints.At w ao k (offL h rs)) => specFoot v s p l e ao co k (offL h rs) w (by omega) hwf.out hA)
            rw [← HH.out] at CF
            have hb3 := BX.out.below hb.out
            have x0 := hb3.at 0 _ rfl
            have x1 := hb3.at 1 _ rfl
            have x2 := hb3.at 2 _ rfl
            have x3 := hb3.at 3 _ rfl
            obtain ⟨g1, c1', rfl, _, _, _⟩ := HM.out.form
            obtain ⟨T, hT⟩ : ∃ T, tx h rs k = T := ⟨_, rfl⟩
            rw [hT] at HM HE hft htx ⊢
            clear hend hT hb3 hall
            go_wp2_with (fail)
            refine (CF.out (T.size : Int) _ HAO.out).mono ?_
            rintro en w7 ⟨rfl, b7⟩
            have HM7 := Lib.hid (HM.out.below b7)
            have HB7 := Lib.hid (B3.out.trans ((hb.out.trans (b7.mono b0)).mono B3.out.size))
            have HB7' := Lib.hid (hb.out.trans (b7.mono b0))
            obtain ⟨Ft, hFt⟩ : ∃ F, ftT h (offL h rs) (T.size : Int) = F := ⟨_, rfl⟩
            rw [hFt] at HE hft ⊢
            clear hFt b7 x0 x1 x2 x3
            go_wp2_with (at_builtin; refine wpList_append_own_stringM (by rfl) (.tmp 58) (.tmp 63) 22 9 (by rfl) w3.heap.size 5 i0 Tryz.underlying22 Tryz.underlying9 hi hz0 hz1 hz2 _ T.size _ (by rfl) HM7.out Ft (by rfl) ?_ ?_ ?_ ?_; unfold maxLen; omega; omega; exact HB7'.out.size; intro v8 w8 o8 g8 b8; rw [strCells_app] at o8; have kcv := conv_ownM Tryz.underlying22 Tryz.underlying5 o8)
            go_ret
            exact ⟨by rw [HE.out]; rfl, HB7.out.grown g8 HB7.out.size fun q hq => by have := (HM7.out.lt q hq).1; have := B3.out.size; omega⟩
      · have k1 : ¬ (1000 : Int) < (n : Int) := by omega
        have k2 : (1000000000 : Int) < p + (n : Int) := by omega
        have HE := Lib.hid (slT_no (h := ⟨v, s, p, l⟩) (rs := rs) fun h => by have h3 := h.2.2.1; rw [hlen] at h3; exact hmax h3)
        clear hk hmax
        go_enter Tryz.func18, Tryz.ntmps18
        go_wp2_with (fail)
        rw [← HW.out]
        refine CK.out.mono ?_
        rintro en w2 ⟨rfl, b2⟩
        have BX := Lib.hid (BX.out.below b2)
        have B2 := Lib.hid (B1.out.trans (b2.mono B1.out.size))
        clear b2 x0 x1 x2 x3
        have x2 := BX.out.at 2 _ rfl
        go_wp2
        go_ret
        exact ⟨by rw [HE.out]; rfl, B2.out⟩
    · have k1 : (1000 : Int) < (n : Int) := by omega
      have HE := Lib.hid (slT_no (h := ⟨v, s, p, l⟩) (rs := rs) fun h => by have h3 := h.2.1; omega)
      clear hk
      go_enter Tryz.func18, Tryz.ntmps18
      go_wp2_with (fail)
      rw [← HW.out]
      refine CK.out.mono ?_
      rintro en w2 ⟨rfl, b2⟩
      go_wp2
      go_ret
      exact ⟨by rw [HE.out]; rfl, B1.out.trans (b2.mono B1.out.size)⟩

end Go.Proofs.YtpibemlganeacaaGreatDoor.sl

namespace Go.Proofs.YtpibemlganeacaaGreatDoor.sl
set_option maxRecDepth 20000
open Go.RowKit
open kit sum num burst hd fr recs sc pl om

def sH (b : ByteArray) : Hd := if isS b = true then hdOf b else ⟨0, 0, 0, 0⟩
def sR (b : ByteArray) : List ByteArray := if isS b = true then sc.recs b else []
/-- what is answered of a reading of a sealed file -/
def RsV (B : Nat) (w : World) (u : Value) (b : ByteArray) : Prop := ∃ v, u = .tuple #[.agg #[.int .i64 (sH b).v, .int .i64 (sH b).s, .int .i64 (sH b).b, .int .i64 (sH b).l], v, .bool (isS b)] ∧ w.ownsRow B 9 1 v (sR b).length ((sR b).map Value.string)
theorem isS_none {b : ByteArray} (h : rdH b = none) : isS b = false := by unfold isS; rw [h]; rfl
theorem isS_unmarked {b : ByteArray} (h : marked b = false) : isS b = false := by unfold isS; rw [h, Bool.false_and, Bool.and_false]
theorem isS_other {b : ByteArray} (h : slT (hdOf b) (sc.recs b) ≠ b) : isS b = false := by unfold isS; rw [decide_eq_false h, Bool.and_false, Bool.and_false]
theorem isS_same {b : ByteArray} (h0 : (rdH b).isSome = true) (h1 : marked b = true) (h : slT (hdOf b) (sc.recs b) = b) : isS b = true := by unfold isS; rw [h0, h1, decide_eq_true h]; rfl
theorem RsV.no {B : Nat} {w : World} {b : ByteArray} {v : Value} (h : isS b = false) (ho : w.ownsRow B 9 1 v 0 []) : RsV B w (.tuple #[.agg #[.int .i64 0, .int .i64 0, .int .i64 0, .int .i64 0], v, .bool false]) b := by
  refine ⟨v, ?_, ?_⟩
  · unfold sH
    rw [h]
    rfl
  · unfold sR
    rw [h]
    exact ho
theorem RsV.yes {B : Nat} {w : World} {b : ByteArray} {v : Value} (h : isS b = true) (ho : w.ownsRow B 9 1 v (sc.recs b).length ((sc.recs b).map Value.string)) : RsV B w (.tuple #[.agg #[.int .i64 (hdOf b).v, .int .i64 (hdOf b).s, .int .i64 (hdOf b).b, .int .i64 (hdOf b).l], v, .bool true]) b := by
  refine ⟨v, ?_, ?_⟩
  · unfold sH
    rw [h]
    rfl
  · unfold sR
    rw [h]
    exact ho

def four (w : World) (r : Nat) (c0 c1 c2 c3 : Value) : World := (((w.setCell ⟨r, 0, none⟩ c0).setCell ⟨r, 1, none⟩ c1).setCell ⟨r, 2, none⟩ c2).setCell ⟨r, 3, none⟩ c3
theorem below_four {B r : Nat} {w0 w : World} (c0 c1 c2 c3 : Value) (h : Below B w0 w) (hr : B ≤ r) : Below B w0 (four w r c0 c1 c2 c3) := by
  unfold four
  iterate 4 refine Below.setCell ?_ hr _
  exact h
theorem own_four {B r n : Nat} {w : World} {E : TypeId} {v : Value} {xs : List Value} (c0 c1 c2 c3 : Value) (h : w.ownsRow B E 1 v n xs) (hr : ∀ q, v.ownBlock = some q → q ≠ r) : (four w r c0 c1 c2 c3).ownsRow B E 1 v n xs := by
  have hv : v.ownBlock ≠ some r := fun e => hr r e rfl
  unfold four
  iterate 4 refine own_setOther ?_ _ _ _ hv
  exact h

set_option maxHeartbeats 4000000 in
theorem specReadSealed (b : ByteArray) (w : World) (hm : b.size ≤ 1048576) :
    Calls Tryz.prog 23 #[.string b] w fun e w' => (∃ u, e = .returned u ∧ RsV w.heap.size w' u b) ∧ Below w.heap.size w w' := by
  have CS := Lib.hid (fun w => specScan b w hm)
  have bw := (Below.refl w.heap.size w).alloc (Nat.le_refl _) (.cells #[.int .i64 0, .int .i64 0, .int .i64 0, .int .i64 0] 41)
  have rw0 := Box.new w #[.int .i64 0, .int .i64 0, .int .i64 0, .int .i64 0] 41
  obtain ⟨W, hW⟩ : ∃ W, W = w.alloc (.cells #[.int .i64 0, .int .i64 0, .int .i64 0, .int .i64 0] 41) := ⟨_, rfl⟩
  rw [← hW] at bw rw0
  have B1 := Lib.hid bw
  have RX := Lib.hid rw0
  have HW := Lib.hid hW
  have hn := recs_le b
  clear hW bw rw0
  go_enter Tryz.func23, Tryz.ntmps23
  go_wp2_with (fail)
  rw [← HW.out]
  clear HW
  refine (CS.out _).mono ?_
  rintro e w2 ⟨⟨v2, rfl, R, O, rfl, rR, rO⟩, b2⟩
  have RX0 := RX
  have RX := Lib.hid (RX.out.below b2)
  have RXw := RX
  have s2 : w.heap.size < w2.heap.size := RX.out.lt
  have B2 := Lib.hid (B1.out.trans (b2.mono B1.out.size))
  obtain ⟨aR, cR, rfl, _, _, _⟩ := own_form rR
  obtain ⟨aO, cO, rfl, _, _, _⟩ := own_form rO
  have HRW := Lib.hid rR
  have HR := Lib.hid (own_base rR (show w.heap.size ≤ W.heap.size by have := B1.out.size; omega))
  have sW : w.heap.size < W.heap.size := RX0.out.lt
  clear rR rO b2 B1 CS
  obtain ⟨C, hC⟩ : ∃ C : Array Value, C = #[.bool (rdH b).isSome, .int .i64 (hdOf b).v, .int .i64 (hdOf b).s, .int .i64 (hdOf b).b, .int .i64 (hdOf b).l, .slice aR (sc.recs b).length cR, .slice aO (sc.recs b).length cO, .int .i64 (endN b : Int), .bool (marked b)] := ⟨_, rfl⟩
  have al := (Below.refl w2.heap.size w2).alloc (Nat.le_refl _) (.cells C 51)
  have sx := Box.new w2 C 51
  obtain ⟨W3, hW3⟩ : ∃ W3, W3 = w2.alloc (.cells C 51) := ⟨_, rfl⟩
  rw [← hW3] at al sx
  have RX := Lib.hid (RX.out.below al)
  have HR := Lib.hid (own_below HR.out al)
  have B3 := Lib.hid (B2.out.trans (al.mono B2.out.size))
  rw [hC] at sx hW3
  have SX := Lib.hid sx
  have HW3 := Lib.hid hW3
  have x0 := sx.at 0 _ rfl
  have x1 := sx.at 1 _ rfl
  have x2 := sx.at 2 _ rfl
  have x3 := sx.at 3 _ rfl
  have x4 := sx.at 4 _ rfl
  have x5 := sx.at 5 _ rfl
  have x8 := sx.at 8 _ rfl
  rw [hW3] at x0 x1 x2 x3 x4 x5 x8
  clear al sx hC C hW3
  cases h0 : (rdH b).isSome with
  | false =>
    rw [h0] at x0 x1 x2 x3 x4 x5 x8 HW3
    have HE := Lib.hid (isS_none (b := b) (by cases e : rdH b with | none => rfl | some h => rw [e] at h0; cases h0))
    have r0 := RXw.out.2 0
    have r1 := RXw.out.2 1
    have r2 := RXw.out.2 2
    have r3 := RXw.out.2 3
    have p0 := RXw.out.at 0 _ rfl
    have p1 := RXw.out.at 1 _ rfl
    have p2 := RXw.out.at 2 _ rfl
    have p3 := RXw.out.at 3 _ rfl
    obtain ⟨SC, hSC⟩ : ∃ SC : Obj, Obj.cells #[.bool false, .int .i64 (hdOf b).v, .int .i64 (hdOf b).s, .int .i64 (hdOf b).b, .int .i64 (hdOf b).l, .slice aR (sc.recs b).length cR, .slice aO (sc.recs b).length cO, .int .i64 (endN b : Int), .bool (marked b)] 51 = SC := ⟨_, rfl⟩
    have HSC := Lib.hid hSC
    have b4 := (below_four (.int .i64 0) (.int .i64 0) (.int .i64 0) (.int .i64 0) B2.out (Nat.le_refl w.heap.size)).alloc (by have := B2.out.size; unfold four; simp; omega) SC
    have b5 := Lib.hid (b4.alloc b4.size (.cells #[] 9))
    have z4 : ((four w2 w.heap.size (.int .i64 0) (.int .i64 0) (.int .i64 0) (.int .i64 0)).alloc SC).heap.size = w2.heap.size + 1 := by unfold four; simp
    have OE := World.ownsRow_made (base := w.heap.size) (e := 9) (size := 1) ((four w2 w.heap.size (.int .i64 0) (.int .i64 0) (.int .i64 0) (.int .i64 0)).alloc SC) #[] 0 b4.size (by decide) rfl
    rw [z4] at OE
    have OE := Lib.hid OE
    clear b4 z4 hSC
    go_wp2
    rw [HSC.out]
    try simp only [Exit.inBlock, Exit.then]
    refine bodyPost_ret (v := .tuple #[.agg #[.int .i64 0, .int .i64 0, .int .i64 0, .int .i64 0], .slice (some ⟨w2.heap.size + 1, 0, none⟩) 0 0, .bool false]) (by simp [results, Tryz.results23, go_sem, p0, p1, p2, p3, s2]) rfl ⟨⟨_, rfl, ?_⟩, b5.out⟩
    exact RsV.no HE.out OE.out
  | true =>
    rw [h0] at x0 x1 x2 x3 x4 x5 x8 HW3
    cases h8 : marked b with
    | false =>
      rw [h8] at x0 x1 x2 x3 x4 x5 x8 HW3
      have HE := Lib.hid (isS_unmarked h8)
      clear h0
      have r0 := RXw.out.2 0
      have r1 := RXw.out.2 1
      have r2 := RXw.out.2 2
      have r3 := RXw.out.2 3
      have p0 := RXw.out.at 0 _ rfl
      have p1 := RXw.out.at 1 _ rfl
      have p2 := RXw.out.at 2 _ rfl
      have p3 := RXw.out.at 3 _ rfl
      obtain ⟨SC, hSC⟩ : ∃ SC : Obj, Obj.cells #[.bool true, .int .i64 (hdOf b).v, .int .i64 (hdOf b).s, .int .i64 (hdOf b).b, .int .i64 (hdOf b).l, .slice aR (sc.recs b).length cR, .slice aO (sc.recs b).length cO, .int .i64 (endN b : Int), .bool false] 51 = SC := ⟨_, rfl⟩
      have HSC := Lib.hid hSC
      have b4 := (below_four (.int .i64 0) (.int .i64 0) (.int .i64 0) (.int .i64 0) B2.out (Nat.le_refl w.heap.size)).alloc (by have := B2.out.size; unfold four; simp; omega) SC
      have b5 := Lib.hid (b4.alloc b4.size (.cells #[] 9))
      have z4 : ((four w2 w.heap.size (.int .i64 0) (.int .i64 0) (.int .i64 0) (.int .i64 0)).alloc SC).heap.size = w2.heap.size + 1 := by unfold four; simp
      have OE := World.ownsRow_made (base := w.heap.size) (e := 9) (size := 1) ((four w2 w.heap.size (.int .i64 0) (.int .i64 0) (.int .i64 0) (.int .i64 0)).alloc SC) #[] 0 b4.size (by decide) rfl
      rw [z4] at OE
      have OE := Lib.hid OE
      clear b4 z4 hSC
      go_wp2
      rw [HSC.out]
      try simp only [Exit.inBlock, Exit.then]
      refine bodyPost_ret (v := .tuple #[.agg #[.int .i64 0, .int .i64 0, .int .i64 0, .int .i64 0], .slice (some ⟨w2.heap.size + 1, 0, none⟩) 0 0, .bool false]) (by simp [results, Tryz.results23, go_sem, p0, p1, p2, p3, s2]) rfl ⟨⟨_, rfl, ?_⟩, b5.out⟩
      exact RsV.no HE.out OE.out
    | true =>
      rw [h8] at x0 x1 x2 x3 x4 x5 x8 HW3
      have AR := Lib.hid (strs.At.of_own HR.out)
      have CT := Lib.hid (fun w (h : strs.At w aR (sc.recs b).length (sc.recs b)) => specSeal (hdOf b).v (hdOf b).s (hdOf b).b (hdOf b).l aR cR (sc.recs b).length (sc.recs b) w (by omega) h)
      have HSL := Lib.hid (show slT ⟨(hdOf b).v, (hdOf b).s, (hdOf b).b, (hdOf b).l⟩ (sc.recs b) = slT (hdOf b) (sc.recs b) from rfl)
      rw [HSL.out] at CT
      have HY := Lib.hid (isS_same h0 h8)
      have HN := Lib.hid (isS_other (b := b))
      obtain ⟨T, hT⟩ : ∃ T, slT (hdOf b) (sc.recs b) = T := ⟨_, rfl⟩
      rw [hT] at CT HY HN
      clear HSL hT h0 h8
      go_wp2_with (fail)
      rw [← HW3.out]
      refine (CT.out _ AR.out).mono ?_
      rintro e w4 ⟨rfl, b4⟩
      have RX4 := Lib.hid (RX.out.below b4)
      have SX4 := Lib.hid (SX.out.below b4)
      have HR4 := Lib.hid (own_below HR.out b4)
      have B4 := Lib.hid (B3.out.trans (b4.mono B3.out.size))
      clear b4 x0 x1 x2 x3 x4 x5 x8
      have r0 := RX4.out.2 0
      have r1 := RX4.out.2 1
      have r2 := RX4.out.2 2
      have r3 := RX4.out.2 3
      have p0 := RX4.out.at 0 _ rfl
      have p1 := RX4.out.at 1 _ rfl
      have p2 := RX4.out.at 2 _ rfl
      have p3 := RX4.out.at 3 _ rfl
      have lt4 : w.heap.size < w4.heap.size := RX4.out.lt
      by_cases hTb : T = b
      · have hc : (T.toList == b.toList) = true := str_yes hTb
        have HE := Lib.hid (HY.out hTb)
        have x1 := SX4.out.at 1 _ rfl
        have x2 := SX4.out.at 2 _ rfl
        have x3 := SX4.out.at 3 _ rfl
        have x4 := SX4.out.at 4 _ rfl
        have x5 := SX4.out.at 5 _ rfl
        clear hTb HN HY
        have ne : w.heap.size ≠ w2.heap.size := by omega
        go_wp2
        go_region
        go_wp2
        have b4 := Lib.hid (below_four (.int .i64 (hdOf b).v) (.int .i64 (hdOf b).s) (.int .i64 (hdOf b).b) (.int .i64 (hdOf b).l) B4.out (Nat.le_refl w.heap.size)).drew
        have OE := Lib.hid (own_drew (own_four (r := w.heap.size) (.int .i64 (hdOf b).v) (.int .i64 (hdOf b).s) (.int .i64 (hdOf b).b) (.int .i64 (hdOf b).l) HR4.out (fun q hq => by have := (own_block_ge HRW.out q hq).1; omega)))
        try simp only [Exit.inBlock, Exit.then]
        refine bodyPost_ret (v := .tuple #[.agg #[.int .i64 (hdOf b).v, .int .i64 (hdOf b).s, .int .i64 (hdOf b).b, .int .i64 (hdOf b).l], .slice aR (sc.recs b).length cR, .bool true]) (by simp [results, Tryz.results23, go_sem, p0, p1, p2, p3]) rfl ⟨⟨_, rfl, ?_⟩, b4.out⟩
        exact RsV.yes HE.out OE.out
      · have hc : (T.toList == b.toList) = false := str_ne hTb
        have HE := Lib.hid (HN.out hTb)
        have b4 := below_four (.int .i64 0) (.int .i64 0) (.int .i64 0) (.int .i64 0) B4.out (Nat.le_refl w.heap.size)
        have b5 := Lib.hid (b4.alloc b4.size (.cells #[] 9))
        have z4 : (four w4 w.heap.size (.int .i64 0) (.int .i64 0) (.int .i64 0) (.int .i64 0)).heap.size = w4.heap.size := by unfold four; simp
        have OE := World.ownsRow_made (base := w.heap.size) (e := 9) (size := 1) (four w4 w.heap.size (.int .i64 0) (.int .i64 0) (.int .i64 0) (.int .i64 0)) #[] 0 b4.size (by decide) rfl
        rw [z4] at OE
        have OE := Lib.hid OE
        clear b4 z4 hTb HN HY
        go_wp2
        try simp only [Exit.inBlock, Exit.then]
        refine bodyPost_ret (v := .tuple #[.agg #[.int .i64 0, .int .i64 0, .int .i64 0, .int .i64 0], .slice (some ⟨w4.heap.size, 0, none⟩) 0 0, .bool false]) (by simp [results, Tryz.results23, go_sem, p0, p1, p2, p3, lt4]) rfl ⟨⟨_, rfl, ?_⟩, b5.out⟩
        exact RsV.no HE.out OE.out

theorem RsV.form {B : Nat} {w : World} {u : Value} {b : ByteArray} (h : RsV B w u b) : ∃ a c, u = .tuple #[.agg #[.int .i64 (sH b).v, .int .i64 (sH b).s, .int .i64 (sH b).b, .int .i64 (sH b).l], .slice a (sR b).length c, .bool (isS b)] ∧ w.ownsRow B 9 1 (.slice a (sR b).length c) (sR b).length ((sR b).map Value.string) := by
  obtain ⟨v, rfl, ho⟩ := h
  obtain ⟨a, c, rfl, _, _, _⟩ := own_form ho
  exact ⟨a, c, rfl, ho⟩
theorem specSealedOk (b : ByteArray) (w : World) (hm : b.size ≤ 1048576) :
    Calls Tryz.prog 27 #[.string b] w fun e w' => e = .returned (.bool (isS b)) ∧ Below w.heap.size w w' := by
  go_enter Tryz.func27, Tryz.ntmps27
  go_wp2_with (fail)
  refine (specReadSealed b _ hm).mono ?_
  rintro e w2 ⟨⟨u, rfl, hu⟩, b2⟩
  obtain ⟨a, c, rfl, _⟩ := hu.form
  go_wp2
  go_ret
  exact ⟨rfl, b2.alloc b2.size _⟩
/-- what is answered of the head of a sealed file -/
def hiR (b : ByteArray) : Value := .tuple #[.agg #[.int .i64 (sH b).v, .int .i64 (sH b).s, .int .i64 (sH b).b, .int .i64 (sH b).l], .bool (isS b)]
theorem sH_no {b : ByteArray} (h : isS b = false) : sH b = ⟨0, 0, 0, 0⟩ := by unfold sH; rw [h]; rfl
/-- whether it is sealed as this version -/
def asB (b : ByteArray) (v : Int) : Bool := isS b && decide ((sH b).v = v)

end Go.Proofs.YtpibemlganeacaaGreatDoor.sl

namespace Go.Proofs.YtpibemlganeacaaGreatDoor.sl
set_option maxRecDepth 20000
open Go.RowKit
open kit sum num burst hd fr recs sc pl om

end Go.Proofs.YtpibemlganeacaaGreatDoor.sl
