/-
  What the landed functions on rows of files answer, in the form of the exact laws, in worlds that hold the library's variables that the rows list.
-/
import Derived.Test.YtiehfobcbhgfkaaGreatDoorRwY
import Derived.Test.YtiehfobcbhgfkaaGreatDoorRwT
import Derived.Test.YtiehfobcbhgfkaaGreatDoorHold
namespace Go.Proofs.YtiehfobcbhgfkaaGreatDoor.row
set_option maxRecDepth 20000
open Go.RowKit
open kit sum num burst hd fr recs sc disk kd nam

theorem gw_of {w : World} (h : hold.F_math_bits_deBruijn64tab w) (h2 : hold.F_strconv_ErrSyntax w) : GW w := ⟨h, h2⟩
theorem iBasesOn (v : Value) (d : D) (w : World) (hk : okD d) (hv : IsDisk w v d) (hg : GW w) :
    Calls Tryz.prog 20 #[v] w fun e w' => ∃ u, e = .returned u ∧ OwnI w.heap.size w' u (bases d.ents) ∧ Below w.heap.size w w' :=
  (implBases' v d w hk hv hg).mono fun _ _ ⟨u, h1, h2, h3⟩ => ⟨u, h1, ⟨_, h2⟩, h3⟩
theorem iChain (v : Value) (d : D) (w : World) (hk : okD d) (hv : IsDisk w v d) (hg : GT w) :
    Calls Tryz.prog 15 #[v] w fun e w' => ∃ u, e = .returned u ∧ OwnI w.heap.size w' u (chain d) ∧ Below w.heap.size w w' :=
  (implChain v d w hk hv hg).mono fun _ _ ⟨u, h1, h2, h3⟩ => ⟨u, h1, ⟨_, h2⟩, h3⟩
theorem iBasesBehind (v : Value) (d : D) (base : Int) (w : World) (hk : okD d) (hv : IsDisk w v d) (hg : GT w) :
    Calls Tryz.prog 36 #[v, .int .i64 base] w fun e w' => ∃ u, e = .returned u ∧ OwnI w.heap.size w' u (behind d base) ∧ Below w.heap.size w w' :=
  (implBehind' v d base w hk hv hg).mono fun _ _ ⟨u, h1, h2, h3⟩ => ⟨u, h1, ⟨_, h2⟩, h3⟩
theorem iRowOf (v : Value) (d : D) (w : World) (hk : okD d) (hv : IsDisk w v d) (hg : GT w) :
    Calls Tryz.prog 14 #[v] w fun e w' => ∃ u, e = .returned u ∧ OwnSS w.heap.size w' u (rowOf d) ∧ Below w.heap.size w w' :=
  (implRowOf' v d w hk hv hg).mono fun _ _ ⟨u, h1, h2, h3⟩ => ⟨u, h1, ⟨_, h2⟩, h3⟩
theorem iLooseNames (v : Value) (d : D) (w : World) (hk : okD d) (hv : IsDisk w v d) (hg : GW w) :
    Calls Tryz.prog 22 #[v] w fun e w' => ∃ u, e = .returned u ∧ OwnSS w.heap.size w' u (loose d) ∧ Below w.heap.size w w' :=
  (implLoose' v d w hk hv hg).mono fun _ _ ⟨u, h1, h2, h3⟩ => ⟨u, h1, ⟨_, h2⟩, h3⟩
theorem iChainTexts (v : Value) (d : D) (w : World) (hk : okD d) (hv : IsDisk w v d) (hg : GT w) :
    Calls Tryz.prog 34 #[v] w fun e w' => ∃ u, e = .returned u ∧ OwnSS w.heap.size w' u (texts d) ∧ Below w.heap.size w w' :=
  (implTexts v d w hk hv hg).mono fun _ _ ⟨u, h1, h2, h3⟩ => ⟨u, h1, ⟨_, h2⟩, h3⟩
theorem iRowLink (v : Value) (d : D) (w : World) (hk : okD d) (hv : IsDisk w v d) (hg : GT w) :
    Calls Tryz.prog 32 #[v] w fun e w' => e = .returned (.int .i64 ((rowLink d : Nat) : Int)) ∧ Below w.heap.size w w' :=
  implRowLink' v d w hk hv hg
theorem implR : ImplR GW :=
  ⟨fun _ _ h hb => h.below hb, iBasesOn, fun v d w hk hv hg => iChain v d w hk hv hg.gt, fun v d w hk hv hg => iRowOf v d w hk hv hg.gt, iLooseNames, fun v d base w h0 h1 hk hv hg => implTextAt v d base w h0 h1 hk hv hg.gt, fun v d w hk hv hg => iRowLink v d w hk hv hg.gt⟩
theorem implC : ImplC GT := ⟨fun _ _ h hb => h.below hb, iChainTexts, iBasesBehind⟩

end Go.Proofs.YtiehfobcbhgfkaaGreatDoor.row
