/-
  The laws' helpers on places that a call handed back.
-/
import Derived.Test.YtpibemlganeacaaDoorPlH
import Derived.Test.YtpibemlganeacaaDoorBox
import Derived.Test.YtpibemlganeacaaDoorPlL
import Derived.Test.YtpibemlganeacaaDoorInts
import Derived.Test.YtpibemlganeacaaDoorBig
namespace Go.Proofs.YtpibemlganeacaaDoor.pl
set_option maxRecDepth 20000
open Go.RowKit
open kit sum num burst hd fr recs sc

theorem OwnP.formP {B : Nat} {w : World} {v : Value} {xs : List Plc} (h : OwnP B w v xs) :
    ∃ a c, v = .slice a xs.length c ∧ xs.length ≤ maxLen ∧ AtP w a xs.length xs ∧ ((xs = [] ∧ a = none) ∨ ∃ g, a = some ⟨g, 0, none⟩ ∧ g < w.heap.size) := by
  have h' : w.ownsRow B 44 2 v xs.length (cellsP xs) := h
  have h2 := h'.2
  rcases h2 with ⟨rfl, h0⟩ | ⟨g, cap, cur, rfl, hB, hg, hn, hcm, _⟩
  · have e : xs = [] := List.length_eq_zero_iff.1 h0
    subst e
    exact ⟨none, 0, rfl, by decide, AtP.of_own h', .inl ⟨rfl, rfl⟩⟩
  · exact ⟨_, cap, rfl, Nat.le_trans hn hcm, AtP.of_own h', .inr ⟨g, rfl, (Array.getElem?_eq_some_iff.1 hg).1⟩⟩
theorem eqP' {B B' : Nat} {u v : Value} {xs : List Plc} (w : World) (hu : OwnP B w u xs) (hv : OwnP B' w v xs) :
    Calls Tryd.prog 8 #[u, v] w fun e w' => e = .returned (.bool true) ∧ Below w.heap.size w w' := by
  obtain ⟨a, c, rfl, hm, ha, _⟩ := hu.formP
  obtain ⟨b, d, rfl, _, hb, _⟩ := hv.formP
  exact eqPlaceS_same a b c d _ xs w hm ha hb
theorem markPlaceS_none (a : Option Addr) (c k : Nat) (w : World) :
    Calls Tryd.prog 9 #[.slice a 0 c, .int .i64 k] w fun e w' => e = .returned (.int .i64 k) ∧ Below w.heap.size w w' := by
  go_enter Tryd.func9, Tryd.ntmps9
  go_wp2
  go_loopw [1, 5] (fun x i wr => x = .int .i64 k ∧ i = .int .i64 0 ∧ Below w.heap.size w wr) (fun _ i _ => (intOf i).toNat)
  case atStart => exact ⟨rfl, rfl, Below.refl _ _⟩
  case round =>
    obtain ⟨rfl, rfl, hb⟩ := hrel
    go_wp2
    go_ret
    exact ⟨rfl, hb⟩
theorem markP' {B : Nat} {v : Value} {xs : List Plc} {k : Nat} (w : World) (hk : k + 2 * xs.length ≤ 1000000000) (hv : OwnP B w v xs) :
    Calls Tryd.prog 9 #[v, .int .i64 k] w fun e w' => e = .returned (.int .i64 ((k + 2 * xs.length : Nat) : Int)) ∧ OwnP B w' v (marksP k xs.length) ∧ w.grownBy w' v.ownBlock := by
  have hv' : w.ownsRow B 44 2 v xs.length (cellsP xs) := hv
  obtain ⟨a, c, rfl, hm, ha, hg⟩ := hv.formP
  rcases hg with ⟨rfl, rfl⟩ | ⟨g, rfl, hg⟩
  · exact (markPlaceS_none none c k w).mono fun e w' ⟨h1, h2⟩ => ⟨h1, own_below hv' h2, grown_of_below h2⟩
  · refine (markPlaceS_some B g c xs.length k xs w hk rfl hg hv').mono fun e w' ⟨h1, h2, h3⟩ => ⟨h1, ?_, h3⟩
    unfold OwnP
    rw [marksP_len]
    exact h2
theorem heldP' {B : Nat} {v : Value} {n k : Nat} (w : World) (hk : k + 2 * n ≤ 1000000000) (hv : OwnP B w v (marksP k n)) :
    Calls Tryd.prog 10 #[v, .int .i64 k] w fun e w' => e = .returned (.int .i64 ((k + 2 * n : Nat) : Int)) ∧ Below w.heap.size w w' := by
  obtain ⟨a, c, rfl, hm, ha, hg⟩ := hv.formP
  rw [marksP_len] at ha ⊢
  exact heldPlaceS_any a c n k w hk ha
theorem OwnP.lt {B : Nat} {w : World} {v : Value} {xs : List Plc} (h : OwnP B w v xs) : ∀ g, v.ownBlock = some g → B ≤ g ∧ g < w.heap.size := fun g hg => own_block_ge h g hg
theorem OwnP.apart {w w' : World} {B B' : Nat} {u v : Value} {xs ys : List Plc} (hu : OwnP B w u xs) (hv : OwnP B' w' v ys) (h : w.heap.size ≤ B') : u.ownBlock = none ∨ u.ownBlock ≠ v.ownBlock := by
  cases h1 : u.ownBlock with
  | none => exact .inl rfl
  | some g =>
    refine .inr fun h2 => ?_
    have a := (hu.lt g h1).2
    have b := (hv.lt g h2.symm).1
    omega

end Go.Proofs.YtpibemlganeacaaDoor.pl
