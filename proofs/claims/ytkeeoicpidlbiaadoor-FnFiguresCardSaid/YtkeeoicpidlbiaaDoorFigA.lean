/-
  What Hex writes is read back by Unhex; impl.Brought's contract.
-/
import Derived.Test.YtkeeoicpidlbiaaDoorHexI
import Derived.Test.YtkeeoicpidlbiaaDoorUnhI
namespace Go.Proofs.YtkeeoicpidlbiaaDoor.fig
open Go.RowKit

theorem hexI_cons (c : UInt8) (r : List UInt8) : hex.hexI (c :: r) = hex.fig (c.toNat / 16) :: hex.fig (c.toNat % 16) :: hex.hexI r := rfl
theorem hexI_at : ∀ (l : List UInt8) (i : Nat) (c : UInt8), l[i]? = some c → (hex.hexI l)[2 * i]? = some (hex.fig (c.toNat / 16)) ∧ (hex.hexI l)[2 * i + 1]? = some (hex.fig (c.toNat % 16))
  | [], i, c, h => by simp at h
  | x :: r, 0, c, h => by
    simp at h
    subst h
    exact ⟨rfl, rfl⟩
  | x :: r, i + 1, c, h => by
    rw [hexI_cons, show 2 * (i + 1) = 2 * i + 1 + 1 by omega]
    simp only [List.getElem?_cons_succ] at h ⊢
    exact hexI_at r i c h
theorem hexI_length : ∀ l : List UInt8, (hex.hexI l).length = 2 * l.length
  | [] => rfl
  | c :: r => by rw [hexI_cons, List.length_cons, List.length_cons, hexI_length r, List.length_cons]; omega

theorem bt_nums (xs : List Int) (j : Nat) (x : Int) (h : xs[j]? = some x) (h0 : 0 ≤ x) (h1 : x ≤ 255) : unh.bt (strOfNums xs) j = x := by
  unfold unh.bt
  rw [strOfNums_data]
  simp only [List.getD, List.getElem?_map, h, Option.map_some, Option.getD_some]
  have : (UInt8.ofNat x.toNat).toNat = x.toNat := by simp; omega
  rw [this]
  omega
theorem hv_fig' : ∀ q : Fin 16, unh.hvI (hex.fig q.val) = q.val := by decide +kernel
theorem hv_fig (x : Int) (h0 : 0 ≤ x) (h1 : x ≤ 15) : unh.hvI (hex.fig x) = x := by
  have := hv_fig' ⟨x.toNat, by omega⟩
  simp only [Int.toNat_of_nonneg h0] at this
  exact this

theorem hex_bytes (l : List UInt8) (i : Nat) (c : UInt8) (h : l[i]? = some c) :
    unh.hvI (unh.bt (strOfNums (hex.hexI l)) (2 * i)) = c.toNat / 16 ∧ unh.hvI (unh.bt (strOfNums (hex.hexI l)) (2 * i + 1)) = c.toNat % 16 := by
  have hc : c.toNat < 256 := c.toNat_lt
  obtain ⟨h1, h2⟩ := hexI_at l i c h
  have b1 := hex.fig_bd ((c.toNat : Int) / 16) (by omega) (by omega)
  have b2 := hex.fig_bd ((c.toNat : Int) % 16) (by omega) (by omega)
  rw [bt_nums _ _ _ h1 b1.1 b1.2, bt_nums _ _ _ h2 b2.1 b2.2]
  exact ⟨hv_fig _ (by omega) (by omega), hv_fig _ (by omega) (by omega)⟩

theorem hex_size (t : ByteArray) : (strOfNums (hex.hexI t.data.toList)).size = 2 * t.size := by
  rw [strOfNums_size, hexI_length]
  rfl

theorem unhex_hex (t : ByteArray) : unh.unhV (strOfNums (hex.hexI t.data.toList)) = .tuple #[.string t, .bool true] := by
  have hn : (strOfNums (hex.hexI t.data.toList)).size / 2 = t.data.toList.length := by
    rw [hex_size]
    have : t.data.toList.length = t.size := rfl
    omega
  have hat : ∀ i, i < t.data.toList.length → ∃ c, t.data.toList[i]? = some c := fun i hi => ⟨_, List.getElem?_eq_getElem hi⟩
  have hok : unh.okTo (strOfNums (hex.hexI t.data.toList)) t.data.toList.length = true := by
    unfold unh.okTo
    rw [List.all_eq_true]
    intro i hi
    obtain ⟨c, hc⟩ := hat i (List.mem_range.1 hi)
    obtain ⟨h1, h2⟩ := hex_bytes _ i c hc
    unfold unh.okAt
    rw [h1, h2]
    simp
    omega
  have hu : unh.uI (strOfNums (hex.hexI t.data.toList)) t.data.toList.length = t.data.toList.map fun c => (c.toNat : Int) := by
    apply List.ext_getElem?
    intro i
    unfold unh.uI
    by_cases hi : i < t.data.toList.length
    · obtain ⟨c, hc⟩ := hat i hi
      obtain ⟨h1, h2⟩ := hex_bytes _ i c hc
      rw [List.getElem?_map, List.getElem?_range hi, Option.map_some, h1, h2, List.getElem?_map, hc, Option.map_some]
      congr 1
      omega
    · rw [List.getElem?_eq_none (by simpa using hi), List.getElem?_eq_none (by simpa using hi)]
  rw [unh.unhV_yes _ (by rw [hn]; exact hok), hn, hu]
  have : strOfNums (t.data.toList.map fun c => (c.toNat : Int)) = t := by
    unfold strOfNums
    rw [List.map_map]
    have hid : ((fun n : Int => UInt8.ofNat n.toNat) ∘ fun c : UInt8 => (c.toNat : Int)) = id := by
      funext c
      simp
    rw [hid, List.map_id]
  rw [this]

/-- n brought into least .. most -/
def br (n least most : Int) : Int := if n < least ∨ most < least then least else if most < n then most else n
theorem brought_any (n least most : Int) (w : World) :
    Calls Tryd.prog 12 #[.int .i64 n, .int .i64 least, .int .i64 most] w fun e w' => e = .returned (.int .i64 (br n least most)) ∧ w = w' := by
  by_cases h1 : n < least
  · have H := Lib.hid (show br n least most = least by unfold br; rw [if_pos (.inl h1)])
    go_enter Tryd.func12, Tryd.ntmps12
    go_wp2
    go_ret
    exact ⟨by rw [H.out]; rfl, rfl⟩
  · by_cases h2 : most < least
    · have H := Lib.hid (show br n least most = least by unfold br; rw [if_pos (.inr h2)])
      go_enter Tryd.func12, Tryd.ntmps12
      go_wp2
      go_ret
      exact ⟨by rw [H.out]; rfl, rfl⟩
    · by_cases h3 : most < n
      · have H := Lib.hid (show br n least most = most by unfold br; rw [if_neg (by omega), if_pos h3])
        go_enter Tryd.func12, Tryd.ntmps12
        go_wp2
        go_ret
        exact ⟨by rw [H.out]; rfl, rfl⟩
      · have H := Lib.hid (show br n least most = n by unfold br; rw [if_neg (by omega), if_neg h3])
        go_enter Tryd.func12, Tryd.ntmps12
        go_wp2
        go_ret
        exact ⟨by rw [H.out]; rfl, rfl⟩

end Go.Proofs.YtkeeoicpidlbiaaDoor.fig
