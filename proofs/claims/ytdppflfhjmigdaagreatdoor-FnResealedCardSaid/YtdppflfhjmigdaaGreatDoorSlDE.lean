/-
  Draws of what a foot is made of, of sealed files, and of what they are made of.
-/
import Derived.Test.YtdppflfhjmigdaaGreatDoorPlQQ
import Derived.Test.YtdppflfhjmigdaaGreatDoorScDF
import Derived.Test.YtdppflfhjmigdaaGreatDoorFrD
namespace Go.Proofs.YtdppflfhjmigdaaGreatDoor.draw
set_option maxRecDepth 20000
open Go.RowKit
open kit hd sc pl sl

/-- a head, offsets of the call's own, and an end -/
def PostFt (w : World) (e : Ending) (w' : World) : Prop := (∃ (x y z u : Int) (v : Value) (n : Nat) (os : List Int) (q : Int), e = .returned (.tuple #[.agg #[.int .i64 x, .int .i64 y, .int .i64 z, .int .i64 u], v, .int .i64 q]) ∧ n ≤ 9 ∧ (∀ o ∈ os, i64 o) ∧ w'.ownsRow w.heap.size 3 1 v n (os.map (Value.int .i64))) ∧ Below w.heap.size w w'
theorem below_four {B r : Nat} {w0 w : World} (c0 c1 c2 c3 : Value) (h : Below B w0 w) (hr : B ≤ r) : Below B w0 ((((w.setCell ⟨r, 0, none⟩ c0).setCell ⟨r, 1, none⟩ c1).setCell ⟨r, 2, none⟩ c2).setCell ⟨r, 3, none⟩ c3) := by
  iterate 4 refine Below.setCell ?_ hr _
  exact h
theorem own_four {B r n : Nat} {w : World} {E : TypeId} {v : Value} {xs : List Value} (c0 c1 c2 c3 : Value) (h : w.ownsRow B E 1 v n xs) (hr : ∀ q, v.ownBlock = some q → q ≠ r) : ((((w.setCell ⟨r, 0, none⟩ c0).setCell ⟨r, 1, none⟩ c1).setCell ⟨r, 2, none⟩ c2).setCell ⟨r, 3, none⟩ c3).ownsRow B E 1 v n xs := by
  have hv : v.ownBlock ≠ some r := fun e => hr r e rfl
  iterate 4 refine own_setOther ?_ _ _ _ hv
  exact h
set_option maxHeartbeats 1000000 in
theorem drawResealed_any (a : Option Addr) (len cap : Nat) (w : World) (hc : CodeAt w w.heap.size a len) :
    Calls Tryz.prog 5 #[.slice a len cap] w fun e w' => (∃ (b : ByteArray) (q : Int), b.size ≤ 100000 ∧ e = .returned (.tuple #[.string b, .int .i64 q])) ∧ Below w.heap.size w w' := by
  obtain ⟨c, hcc⟩ : ∃ c, w.heap.size = c := ⟨_, rfl⟩
  have hBc : c ≤ c := Nat.le_refl _
  go_enter Tryz.func5, Tryz.ntmps5
  go_wp2_with fail
  refine (new_any w.heap.size a len cap w (Nat.le_refl _) hc).mono ?_
  rintro e w1 ⟨rfl, u1, b1, sz1⟩
  have k1 := hc.below b1
  rw [hcc] at u1 k1
  have hs1 : c < w1.heap.size := by omega
  have HB1 := Lib.hid b1
  have HCC := Lib.hid hcc
  have G1 := Lib.hid (grown_refl w1 (some c))
  clear hc b1 sz1
  rw [hcc]
  clear hcc
  go_wp2_with fail
  refine (file10_any c c a len cap w1 hBc hs1 k1 u1).mono ?_
  rintro e w2 ⟨⟨r, hr, rfl⟩, u2, g2⟩
  have k2 := k1.grown hBc (by omega) g2
  have hs2 : c < w2.heap.size := Nat.lt_of_lt_of_le hs1 g2.size
  have G2 := Lib.hid (grown_trans G1.out g2)
  clear k1 u1 hs1 G1
  go_wp2_with fail
  refine (pickNew c c 5 a len cap [0, 1, 2, 3, -1] w2 hBc hs2 k2 u2 rfl (by decide) (by decide)).mono ?_
  rintro e w3 ⟨⟨q, hq, rfl⟩, u3, g3⟩
  have k3 := k2.grown hBc (by omega) g3
  have hs3 : c < w3.heap.size := Nat.lt_of_lt_of_le hs2 g3.size
  have G3 := Lib.hid (grown_trans G2.out g3)
  clear k2 u2 hs2 G2
  go_wp2
  go_ret2
  exact ⟨⟨r, q, by omega, rfl⟩, (HB1.out.grown G3.out HB1.out.size (fun k hk => by injection hk with hk; have := HCC.out; omega))⟩

end Go.Proofs.YtdppflfhjmigdaaGreatDoor.draw

namespace Go.Proofs.YtdppflfhjmigdaaGreatDoor.draw
set_option maxRecDepth 20000
open Go.RowKit
open kit hd sc pl sl

theorem box_low {w w' : World} {B g : Nat} {cs : List Value} (h : Box w g cs) (k : Below B w w') (hg : g < B) : Box w' g cs := by
  have hb := k.block g hg
  refine ⟨⟨Nat.lt_of_lt_of_le h.lt k.size, fun j x hj => ?_⟩, fun j => (World.frozen?_of_block (a := ⟨g, j, none⟩) hb).trans (h.2 j)⟩
  rw [← h.1.2 j x hj]
  unfold World.cell?
  rw [hb]
theorem Hb.low {w w' : World} {B g : Nat} {a b c d : Int} (h : Hb w g a b c d) (k : Below B w w') (hg : g < B) : Hb w' g a b c d := (k.block g hg).trans h
/-- a head, and records of the call's own -/
def PostSl (w : World) (e : Ending) (w' : World) : Prop := (∃ (x y z u : Int) (v : Value) (n : Nat) (xs : List ByteArray), e = .returned (.tuple #[.agg #[.int .i64 x, .int .i64 y, .int .i64 z, .int .i64 u], v]) ∧ n ≤ 9 ∧ (∀ r ∈ xs, r.size ≤ 61) ∧ w'.ownsRow w.heap.size 9 1 v n (xs.map Value.string)) ∧ Below w.heap.size w w'
end Go.Proofs.YtdppflfhjmigdaaGreatDoor.draw
