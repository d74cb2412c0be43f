/-
  impl.SegmentName, impl.TempName, impl.NextName: their contracts, in worlds that hold the library's table of 64.
-/
import Derived.Test.YtepecjofngoejaaDoorNmF
import Derived.Test.YtepecjofngoejaaDoorShelfA
import Derived.Test.YtepecjofngoejaaDoorNameLaws
namespace Go.Proofs.YtepecjofngoejaaDoor.nam
open Go.RowKit
open kit
open num

set_option maxRecDepth 1000000
theorem repeat_noughts (c : Nat) : (⟨(Lib.repeatL (({ data := #[48] } : ByteArray)).data.toList c).toArray⟩ : ByteArray) = txt (List.replicate c 48) := by
  unfold txt
  congr 2
  induction c with
  | zero => rfl
  | succ c ih =>
    rw [List.replicate_succ, List.map_cons, ← ih]
    rfl
theorem implSeg_in (n : Nat) (w : World) (hn : n ≤ 1000000000) (h : Tab64 w) :
    Calls Tryd.prog 13 #[.int .i64 (n : Int)] w (PostT (seg n) w) := by
  have e8 : (16 : Nat) ^ 8 = 4294967296 := by decide
  have HF := Lib.hid (format16_any n w (by omega) h)
  have h0 : ¬ (n : Int) < 0 := by omega
  have h1 : ¬ (1000000000 : Int) < (n : Int) := by omega
  clear h
  go_enter Tryd.func13, Tryd.ntmps13
  go_wp2_with fail
  refine HF.out.mono ?_
  rintro e w1 ⟨⟨j, hj, hn2, rfl⟩, b1⟩
  have hz : (txt (hexd (j + 1) n)).size = j + 1 := by rw [txt_size, hexd_length]
  obtain ⟨c, hc⟩ : ∃ c, 7 - j = c := ⟨_, rfl⟩
  have hsub : (8 : Int) - ((j + 1 : Nat) : Int) = (c : Int) := by omega
  have HS : seg n = (({ data := #[115] } : ByteArray) ++ txt (List.replicate c 48) ++ txt (hexd (j + 1) n)) ++ { data := #[46, 115, 101, 103] } := by
    unfold seg
    rw [show 8 = c + (j + 1) by omega, hexd_pad _ _ hn2, ← List.append_assoc, txt_append, txt_append, txt_append]
    rfl
  obtain ⟨T, hT⟩ : ∃ T, txt (hexd (j + 1) n) = T := ⟨_, rfl⟩
  obtain ⟨m, hm⟩ : ∃ m, j + 1 = m := ⟨_, rfl⟩
  rw [hT] at hz HS ⊢
  rw [hm] at hz hsub
  have hR : Calls Tryd.prog 36 #[.string { data := #[48] }, .int .i64 (c : Int)] w1 fun e w' => e = .returned (.string (txt (List.replicate c 48))) ∧ Below w1.heap.size w1 w' :=
    (Tryd.strings_Repeat { data := #[48] } c w1 (by omega) (by show 1 * c ≤ _; omega)).mono fun e w' ⟨h1, h2⟩ => ⟨by rw [h1, repeat_noughts], h2⟩
  have HR := Lib.hid hR
  have z0 : (txt (List.replicate c 48)).size = c := by rw [txt_size, List.length_replicate]
  obtain ⟨Z, hZ⟩ : ∃ Z, txt (List.replicate c 48) = Z := ⟨_, rfl⟩
  rw [hZ] at HS HR z0
  have z1 : (({ data := #[115] } : ByteArray)).size = 1 := rfl
  have z2 : (({ data := #[46, 115, 101, 103] } : ByteArray)).size = 4 := rfl
  have z3 : (({ data := #[115] } : ByteArray) ++ Z).size = 1 + c := by rw [ByteArray.size_append, z1, z0]
  have z4 : (({ data := #[115] } : ByteArray) ++ Z ++ T).size = 1 + c + m := by rw [ByteArray.size_append, z3, hz]
  have hc8 : c ≤ 7 := by omega
  have hm8 : m ≤ 8 := by omega
  have HSS := Lib.hid HS
  clear hT hZ hR HS hm hc hn2
  go_wp2_with (go_at_call 36; refine HR.out.mono ?_; rintro e w2 ⟨rfl, c2⟩)
  go_ret
  exact ⟨by rw [HSS.out]; rfl, chain b1 c2⟩
theorem implSeg_any (n : Int) (w : World) (h : Tab64 w) : Calls Tryd.prog 13 #[.int .i64 n] w (PostT (segI n) w) := by
  by_cases hn : 0 ≤ n ∧ n ≤ 1000000000
  · obtain ⟨m, rfl⟩ := Int.eq_ofNat_of_zero_le hn.1
    rw [segI_in m (by omega)]
    exact implSeg_in m w (by omega) h
  · have HE := Lib.hid (segI_out n hn)
    clear h
    by_cases h0 : n < 0
    · clear hn
      go_enter Tryd.func13, Tryd.ntmps13
      go_wp2
      go_ret
      exact ⟨by rw [HE.out]; rfl, Below.refl _ _⟩
    · have h1 : (1000000000 : Int) < n := by omega
      clear hn
      go_enter Tryd.func13, Tryd.ntmps13
      go_wp2
      go_ret
      exact ⟨by rw [HE.out]; rfl, Below.refl _ _⟩
theorem implTemp_any (n : Int) (w : World) (h : Tab64 w) : Calls Tryd.prog 14 #[.int .i64 n] w (PostT (tmpI n) w) := by
  have HQ := Lib.hid (implSeg_any n w h)
  clear h
  by_cases h : 0 ≤ n ∧ n ≤ 1000000000
  · obtain ⟨m, rfl⟩ := Int.eq_ofNat_of_zero_le h.1
    have hz := seg_size m
    have HS := Lib.hid (segI_in m (by omega))
    have HT := Lib.hid (tmpI_in m (by omega))
    obtain ⟨T, hT⟩ : ∃ T, seg m = T := ⟨_, rfl⟩
    rw [hT] at hz HS HT
    have hemp := str_full (by omega : 0 < T.size)
    have z2 : (({ data := #[46, 116, 109, 112] } : ByteArray)).size = 4 := rfl
    clear hT h
    go_enter Tryd.func14, Tryd.ntmps14
    go_wp2_with fail
    refine HQ.out.mono ?_
    rw [HS.out]
    rintro e w1 ⟨rfl, b1⟩
    go_wp2
    go_ret
    exact ⟨by rw [HT.out]; rfl, b1⟩
  · have HS := Lib.hid (segI_out n h)
    have HT := Lib.hid (tmpI_out n h)
    clear h
    go_enter Tryd.func14, Tryd.ntmps14
    go_wp2_with fail
    refine HQ.out.mono ?_
    rw [HS.out]
    rintro e w1 ⟨rfl, b1⟩
    go_wp2
    go_ret
    exact ⟨by rw [HT.out]; rfl, b1⟩
theorem implNext_any (b m : Int) (w : World) (hb : wfI b) (hm : wfI m) (h : Tab64 w) :
    Calls Tryd.prog 20 #[.int .i64 b, .int .i64 m] w (PostT (nxI b m) w) := by
  obtain ⟨hb1, hb2⟩ := hb
  obtain ⟨hm1, hm2⟩ := hm
  have HQ := Lib.hid (implSeg_any (b + m) w h)
  clear h
  by_cases h0 : b < 0
  · have H := Lib.hid (show nxI b m = { data := #[] } from if_pos (.inl h0))
    go_enter Tryd.func20, Tryd.ntmps20
    go_wp2
    go_ret
    exact ⟨by rw [H.out]; rfl, Below.refl _ _⟩
  · by_cases h1 : m < 0
    · have H := Lib.hid (show nxI b m = { data := #[] } from if_pos (.inr (.inl h1)))
      go_enter Tryd.func20, Tryd.ntmps20
      go_wp2
      go_ret
      exact ⟨by rw [H.out]; rfl, Below.refl _ _⟩
    · by_cases h2 : 1000000000 - m < b
      · have H := Lib.hid (show nxI b m = { data := #[] } from if_pos (.inr (.inr (by omega))))
        have hw : IntKind.i64.wrap (1000000000 - m) = 1000000000 - m := by rw [IntKind.wrap_i64]; omega
        go_enter Tryd.func20, Tryd.ntmps20
        go_wp2
        go_ret
        exact ⟨by rw [H.out]; rfl, Below.refl _ _⟩
      · have H := Lib.hid (show nxI b m = segI (b + m) from if_neg (by omega))
        have hw : IntKind.i64.wrap (1000000000 - m) = 1000000000 - m := by rw [IntKind.wrap_i64]; omega
        have hw2 : IntKind.i64.wrap (b + m) = b + m := by rw [IntKind.wrap_i64]; omega
        go_enter Tryd.func20, Tryd.ntmps20
        go_wp2_with fail
        refine HQ.out.mono ?_
        rintro e w1 ⟨rfl, b1⟩
        go_wp2
        go_ret
        exact ⟨by rw [H.out]; rfl, b1⟩

end Go.Proofs.YtepecjofngoejaaDoor.nam
