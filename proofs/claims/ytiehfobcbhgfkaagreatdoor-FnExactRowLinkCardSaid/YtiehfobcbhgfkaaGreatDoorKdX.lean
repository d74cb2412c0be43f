/-
  Lists of numbers under the form of the exact laws.
-/
import Derived.Test.YtiehfobcbhgfkaaGreatDoorKinds
import Derived.Test.YtiehfobcbhgfkaaGreatDoorIntX
import Derived.Test.YtiehfobcbhgfkaaGreatDoorRwX
namespace Go.Proofs.YtiehfobcbhgfkaaGreatDoor.kd
set_option maxRecDepth 20000
open Go.RowKit
open kit strs recs disk

def IsI (w : World) (v : Value) (xs : List Int) : Prop := ∃ (a : Option Addr) (n c : Nat), v = .slice a n c ∧ AtI w a n xs
def OwnI (B : Nat) (w : World) (v : Value) (xs : List Int) : Prop := ∃ n, w.ownsRow B 3 1 v n (xs.map (Value.int .i64))
theorem IsI.below {w w' : World} {v : Value} {xs : List Int} (h : IsI w v xs) (hb : Below w.heap.size w w') : IsI w' v xs := by
  obtain ⟨a, n, c, rfl, h⟩ := h
  exact ⟨a, n, c, rfl, (show Cells w a n 1 _ from h).below hb⟩
theorem OwnI.is {B : Nat} {w : World} {v : Value} {xs : List Int} (h : OwnI B w v xs) : IsI w v xs := by
  obtain ⟨n, h⟩ := h
  obtain ⟨a, c, rfl, _⟩ := own_shape h
  exact ⟨a, n, c, rfl, own_cells h⟩
theorem OwnI.base {B B' : Nat} {w : World} {v : Value} {xs : List Int} (h : OwnI B w v xs) (hB : B' ≤ B) : OwnI B' w v xs := ⟨h.choose, own_base h.choose_spec hB⟩
theorem OwnI.below {B : Nat} {w w' : World} {v : Value} {xs : List Int} (h : OwnI B w v xs) (hb : Below w.heap.size w w') : OwnI B w' v xs := ⟨h.choose, own_below h.choose_spec hb⟩
theorem OwnI.rows {B : Nat} {w : World} {v : Value} {xs : List Int} (h : OwnI B w v xs) : ∀ k, disk.rows v k → B ≤ k ∧ k < w.heap.size := fun k hk => (row_slice h.choose_spec k hk).2
theorem OwnI.only {B : Nat} {w w' : World} {v : Value} {xs : List Int} {S : Nat → Prop} (h : OwnI B w v xs) (o : Only w w' S) (hs : ∀ k, disk.rows v k → ¬ S k) : OwnI B w' v xs :=
  ⟨h.choose, own_only h.choose_spec o (fun k hk => hs k (rows_own h.choose_spec k hk))⟩
end Go.Proofs.YtiehfobcbhgfkaaGreatDoor.kd

namespace Go.Proofs.YtiehfobcbhgfkaaGreatDoor.row
set_option maxRecDepth 20000
open Go.RowKit
open kit sum num burst hd fr recs sc disk kd nam

theorem sBasesOn (v : Value) (d : D) (w : World) (hk : okD d) (hv : IsDisk w v d) :
    Calls Tryz.prog 21 #[v] w fun e w' => ∃ u, e = .returned u ∧ OwnI w.heap.size w' u (bases d.ents) ∧ Below w.heap.size w w' :=
  (specBasesOn v d w hk hv).mono fun _ _ ⟨u, h1, h2, h3⟩ => ⟨u, h1, ⟨_, h2⟩, h3⟩
theorem sChain (v : Value) (d : D) (w : World) (hk : okD d) (hv : IsDisk w v d) :
    Calls Tryz.prog 19 #[v] w fun e w' => ∃ u, e = .returned u ∧ OwnI w.heap.size w' u (chain d) ∧ Below w.heap.size w w' :=
  (specChain v d w hk hv).mono fun _ _ ⟨u, h1, h2, h3⟩ => ⟨u, h1, ⟨_, h2⟩, h3⟩
theorem sBasesBehind (v : Value) (d : D) (base : Int) (w : World) (hk : okD d) (hv : IsDisk w v d) :
    Calls Tryz.prog 38 #[v, .int .i64 base] w fun e w' => ∃ u, e = .returned u ∧ OwnI w.heap.size w' u (behind d base) ∧ Below w.heap.size w w' :=
  (specBehind v d base w hk hv).mono fun _ _ ⟨u, h1, h2, h3⟩ => ⟨u, h1, ⟨_, h2⟩, h3⟩
theorem sRowOf (v : Value) (d : D) (w : World) (hk : okD d) (hv : IsDisk w v d) :
    Calls Tryz.prog 17 #[v] w fun e w' => ∃ u, e = .returned u ∧ OwnSS w.heap.size w' u (rowOf d) ∧ Below w.heap.size w w' :=
  (specRowOf v d w hk hv).mono fun _ _ ⟨u, h1, h2, h3⟩ => ⟨u, h1, ⟨_, h2⟩, h3⟩
theorem sLooseNames (v : Value) (d : D) (w : World) (hk : okD d) (hv : IsDisk w v d) :
    Calls Tryz.prog 23 #[v] w fun e w' => ∃ u, e = .returned u ∧ OwnSS w.heap.size w' u (loose d) ∧ Below w.heap.size w w' :=
  (specLoose v d w hk hv).mono fun _ _ ⟨u, h1, h2, h3⟩ => ⟨u, h1, ⟨_, h2⟩, h3⟩
theorem sChainTexts (v : Value) (d : D) (w : World) (hk : okD d) (hv : IsDisk w v d) :
    Calls Tryz.prog 37 #[v] w fun e w' => ∃ u, e = .returned u ∧ OwnSS w.heap.size w' u (texts d) ∧ Below w.heap.size w w' :=
  (specChainTexts v d w hk hv).mono fun _ _ ⟨u, h1, h2, h3⟩ => ⟨u, h1, ⟨_, h2⟩, h3⟩
end Go.Proofs.YtiehfobcbhgfkaaGreatDoor.row
