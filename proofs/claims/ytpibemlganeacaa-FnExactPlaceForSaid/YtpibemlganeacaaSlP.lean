/-
  Contract of spec.SealText.
-/
import Derived.Test.YtpibemlganeacaaMathX
import Derived.Test.YtpibemlganeacaaPlV
import Derived.Test.YtpibemlganeacaaOwnM
import Derived.Deep.RegionHeld3
import Derived.Test.YtpibemlganeacaaScP
namespace Go.Proofs.Ytpibemlganeacaa.sl
set_option maxRecDepth 20000
open Go.RowKit
open kit sum num burst hd fr recs sc pl om

theorem offL_take {h : Hd} {rs : List ByteArray} {k : Nat} (hk : k < rs.length) : (offL h rs).take (k + 1) = (offL h rs).take k ++ [((tx h rs k).size : Int)] := by
  rw [List.take_add_one, offL_at hk]
  rfl
theorem offL_wf {h : Hd} {rs : List ByteArray} (hn : rs.length ≤ 1000) : ∀ o ∈ offL h rs, i64 o := by
  intro o ho
  unfold offL at ho
  obtain ⟨i, hi, rfl⟩ := List.mem_map.1 ho
  have h1 := tx_le72 h rs i
  have h2 := List.mem_range.1 hi
  unfold i64
  omega
theorem specHeadTextL (v s b l : Int) (w : World) : Calls Try.prog 28 #[.agg #[.int .i64 v, .int .i64 s, .int .i64 b, .int .i64 l]] w fun e w' => e = .returned (.string (hdT ⟨v, s, b, l⟩)) ∧ Below w.heap.size w w' := specHeadText v s b l w
theorem offM_type {w : World} {B B' s n n' : Nat} {e e' : TypeId} {u v : Value} {xs ys : List Value} (hu : ownM w B e u n xs) (hv : w.ownsRow B' e' s v n' ys) (hne : e ≠ e') : Off u v := fun g h1 h2 => by
  obtain ⟨_, g1, c1, cur1, fz, rfl, _, k1, _⟩ := hu
  rcases hv.2 with ⟨rfl, _⟩ | ⟨g2, c2, cur2, rfl, _, k2, _⟩
  · simp [Value.ownBlock] at h2
  simp only [Value.ownBlock, Option.some.injEq] at h1 h2
  subst h1
  subst h2
  rw [k1] at k2
  simp only [Option.some.injEq] at k2
  injection k2 with _ h
  exact hne h
theorem ownM_grown {w w' : World} {B : Nat} {e : TypeId} {v u : Value} {n : Nat} {xs : List Value} (h : ownM w B e v n xs) (hg : w.grownBy w' u.ownBlock) (ho : Off v u) : ownM w' B e v n xs :=
  h.kept hg fun e => by
    obtain ⟨g, c, rfl, _⟩ := h.form
    exact ho g rfl (e.symm.trans rfl)
theorem Try.infoU8 : (Try.prog.info? 5).map (fun i => (i.zero, i.size, i.bytes)) = some (some (.int .u8 0), 1, 1) := by kernel_rfl
theorem Try.infoInt : (Try.prog.info? 3).map (fun i => (i.zero, i.size, i.bytes)) = some (some (.int .i64 0), 1, 8) := by kernel_rfl

theorem ownM_drew {w : World} {B : Nat} {e : TypeId} {v : Value} {n : Nat} {xs : List Value} (h : ownM w B e v n xs) : ownM w.drew B e v n xs := h
theorem own_drew {w : World} {B size : Nat} {e : TypeId} {v : Value} {n : Nat} {xs : List Value} (h : w.ownsRow B e size v n xs) : w.drew.ownsRow B e size v n xs := h
end Go.Proofs.Ytpibemlganeacaa.sl

namespace Go.Proofs.Ytpibemlganeacaa.sl
set_option maxRecDepth 20000
open Go.RowKit
open kit sum num burst hd fr recs sc pl om

def sH (b : ByteArray) : Hd := if isS b = true then hdOf b else ⟨0, 0, 0, 0⟩
def sR (b : ByteArray) : List ByteArray := if isS b = true then sc.recs b else []
/-- what is answered of a reading of a sealed file -/
def RsV (B : Nat) (w : World) (u : Value) (b : ByteArray) : Prop := ∃ v, u = .tuple #[.agg #[.int .i64 (sH b).v, .int .i64 (sH b).s, .int .i64 (sH b).b, .int .i64 (sH b).l], v, .bool (isS b)] ∧ w.ownsRow B 9 1 v (sR b).length ((sR b).map Value.string)
theorem isS_none {b : ByteArray} (h : rdH b = none) : isS b = false := by unfold isS; rw [h]; rfl
theorem isS_unmarked {b : ByteArray} (h : marked b = false) : isS b = false := by unfold isS; rw [h, Bool.false_and, Bool.and_false]
theorem isS_other {b : ByteArray} (h : slT (hdOf b) (sc.recs b) ≠ b) : isS b = false := by unfold isS; rw [decide_eq_false h, Bool.and_false, Bool.and_false]
theorem isS_same {b : ByteArray} (h0 : (rdH b).isSome = true) (h1 : marked b = true) (h : slT (hdOf b) (sc.recs b) = b) : isS b = true := by unfold isS; rw [h0, h1, decide_eq_true h]; rfl
theorem RsV.no {B : Nat} {w : World} {b : ByteArray} {v : Value} (h : isS b = false) (ho : w.ownsRow B 9 1 v 0 []) : RsV B w (.tuple #[.agg #[.int .i64 0, .int .i64 0, .int .i64 0, .int .i64 0], v, .bool false]) b := by
  refine ⟨v, ?_, ?_⟩
  · unfold sH
    rw [h]
    rfl
  · unfold sR
    rw [h]
    exact ho
theorem RsV.yes {B : Nat} {w : World} {b : ByteArray} {v : Value} (h : isS b = true) (ho : w.ownsRow B 9 1 v (sc.recs b).length ((sc.recs b).map Value.string)) : RsV B w (.tuple #[.agg #[.int .i64 (hdOf b).v, .int .i64 (hdOf b).s, .int .i64 (hdOf b).b, .int .i64 (hdOf b).l], v, .bool true]) b := by
  refine ⟨v, ?_, ?_⟩
  · unfold sH
    rw [h]
    rfl
  · unfold sR
    rw [h]
    exact ho

def four (w : World) (r : Nat) (c0 c1 c2 c3 : Value) : World := (((w.setCell ⟨r, 0, none⟩ c0).setCell ⟨r, 1, none⟩ c1).setCell ⟨r, 2, none⟩ c2).setCell ⟨r, 3, none⟩ c3
theorem below_four {B r : Nat} {w0 w : World} (c0 c1 c2 c3 : Value) (h : Below B w0 w) (hr : B ≤ r) : Below B w0 (four w r c0 c1 c2 c3) := by
  unfold four
  iterate 4 refine Below.setCell ?_ hr _
  exact h
theorem own_four {B r n : Nat} {w : World} {E : TypeId} {v : Value} {xs : List Value} (c0 c1 c2 c3 : Value) (h : w.ownsRow B E 1 v n xs) (hr : ∀ q, v.ownBlock = some q → q ≠ r) : (four w r c0 c1 c2 c3).ownsRow B E 1 v n xs := by
  have hv : v.ownBlock ≠ some r := fun e => hr r e rfl
  unfold four
  iterate 4 refine own_setOther ?_ _ _ _ hv
  exact h

theorem RsV.form {B : Nat} {w : World} {u : Value} {b : ByteArray} (h : RsV B w u b) : ∃ a c, u = .tuple #[.agg #[.int .i64 (sH b).v, .int .i64 (sH b).s, .int .i64 (sH b).b, .int .i64 (sH b).l], .slice a (sR b).length c, .bool (isS b)] ∧ w.ownsRow B 9 1 (.slice a (sR b).length c) (sR b).length ((sR b).map Value.string) := by
  obtain ⟨v, rfl, ho⟩ := h
  obtain ⟨a, c, rfl, _, _, _⟩ := own_form ho
  exact ⟨a, c, rfl, ho⟩
/-- what is answered of the head of a sealed file -/
def hiR (b : ByteArray) : Value := .tuple #[.agg #[.int .i64 (sH b).v, .int .i64 (sH b).s, .int .i64 (sH b).b, .int .i64 (sH b).l], .bool (isS b)]
theorem sH_no {b : ByteArray} (h : isS b = false) : sH b = ⟨0, 0, 0, 0⟩ := by unfold sH; rw [h]; rfl
/-- whether it is sealed as this version -/
def asB (b : ByteArray) (v : Int) : Bool := isS b && decide ((sH b).v = v)

end Go.Proofs.Ytpibemlganeacaa.sl
