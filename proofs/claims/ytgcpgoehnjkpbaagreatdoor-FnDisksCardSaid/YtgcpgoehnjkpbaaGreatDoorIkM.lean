/-
  The landed program's maps of names and numbers: what they hold, look-ups, and the step that takes a name away.
-/
import Derived.Test.YtgcpgoehnjkpbaaGreatDoorIkMap
import Derived.Test.YtgcpgoehnjkpbaaGreatDoorIkCut
import Derived.Test.YtgcpgoehnjkpbaaGreatDoorNmN
import Derived.Test.YtgcpgoehnjkpbaaGreatDoorIkR
import Derived.Maps.OwnOps
namespace Go.Proofs.YtgcpgoehnjkpbaaGreatDoor.ik
open Go.RowKit Go.Maps Go.WideMaps
open kit strs recs disk deed

theorem lawS : Keyed Tryz.prog 9 := string_keyed Tryz.underlying9
theorem lawI : Keyed Tryz.prog 3 := int_keyed Tryz.underlying3
theorem zI (w : World) : (zeroValue 3).run Tryz.prog w = .ok (.int .i64 0) w := by kernel_rfl
theorem zB (w : World) : (zeroValue 4).run Tryz.prog w = .ok (.bool false) w := by kernel_rfl

/-- block b is a map that stands for the entries -/
def MapE (w : World) (b n : Nat) (l : List Ent) : Prop := ∃ D : DataW Unit, w.ownsMap Tryz.prog 9 (plainElem Tryz.prog 3) b n D ∧ Rep D l ∧ Srt l
/-- block b is a map that stands for the nodes' numbers -/
def MapN (w : World) (b n : Nat) (ns : List Nod) : Prop := ∃ D : DataW Unit, w.ownsMap Tryz.prog 3 (plainElem Tryz.prog 4) b n D ∧ RepN D ns
theorem MapE.kept {w w' : World} {b n : Nat} {l : List Ent} {row : Option Nat} (h : MapE w b n l) (hg : w.grownBy w' row) (hne : some b ≠ row) : MapE w' b n l := by
  obtain ⟨D, ho, hr⟩ := h
  exact ⟨D, ho.kept hg hne, hr⟩
theorem MapN.kept {w w' : World} {b n : Nat} {l : List Nod} {row : Option Nat} (h : MapN w b n l) (hg : w.grownBy w' row) (hne : some b ≠ row) : MapN w' b n l := by
  obtain ⟨D, ho, hr⟩ := h
  exact ⟨D, ho.kept hg hne, hr⟩
theorem MapE.below {w w' : World} {b n : Nat} {l : List Ent} (h : MapE w b n l) (hb : Below w.heap.size w w') : MapE w' b n l := h.kept (row := none) (grown_of_below hb) (by simp)
theorem MapN.below {w w' : World} {b n : Nat} {l : List Nod} (h : MapN w b n l) (hb : Below w.heap.size w w') : MapN w' b n l := h.kept (row := none) (grown_of_below hb) (by simp)
theorem MapE.lt {w : World} {b n : Nat} {l : List Ent} (h : MapE w b n l) : b < w.heap.size := by
  obtain ⟨D, ho, _⟩ := h
  exact ho.lt
theorem MapN.lt {w : World} {b n : Nat} {l : List Nod} (h : MapN w b n l) : b < w.heap.size := by
  obtain ⟨D, ho, _⟩ := h
  exact ho.lt
theorem MapE.mono {w : World} {b n n' : Nat} {l : List Ent} (h : MapE w b n l) (hn : n ≤ n') : MapE w b n' l := by
  obtain ⟨D, ho, hr⟩ := h
  exact ⟨D, ho.mono hn, hr⟩
theorem MapE.look {w : World} {b n : Nat} {l : List Ent} (h : MapE w b n l) {s : ByteArray} (hs : s.size ≤ maxLen) :
    (Instr.lookup 97 (.map (some b)) (.string s) false).run Tryz.prog w = .ok (.int .i64 (idE l s)) w ∧ (Lit.int .i64 (idE l s)).wf = true := by
  obtain ⟨D, ho, hr, _⟩ := h
  obtain ⟨c, hrun, hat, hwf⟩ := ho.lookup_int lawS Tryz.underlying97 Tryz.underlying3 (zI _) (keyOf_string_mk Tryz.underlying9 hs)
  rw [hr.2] at hat
  have hc : idE l s = c := by
    unfold idE
    cases e : entAt l s with
    | none => rw [e] at hat; simpa using hat
    | some i => rw [e] at hat; simpa using hat
  rw [hc]
  exact ⟨hrun, hwf⟩
theorem MapE.look_ok {w : World} {b n : Nat} {l : List Ent} (h : MapE w b n l) {s : ByteArray} (hs : s.size ≤ maxLen) :
    (Instr.lookup 97 (.map (some b)) (.string s) true).run Tryz.prog w = .ok (.tuple #[.int .i64 (idE l s), .bool (hasE l s)]) w := by
  obtain ⟨D, ho, hr, _⟩ := h
  obtain ⟨v, ps, hrun, hv⟩ := ho.look_ok lawS Tryz.underlying97 (zI _) (plainElem_int Tryz.underlying3 (by decide)) (keyOf_string_mk Tryz.underlying9 hs)
  obtain ⟨c, rfl, hc, _⟩ := plainElem_int_inv Tryz.underlying3 hv
  have hat := congrArg Prod.fst hc
  simp only [] at hat
  rw [hr.2] at hat
  have hc : idE l s = c := by
    unfold idE
    cases e : entAt l s with
    | none => rw [e] at hat; simpa using hat
    | some i => rw [e] at hat; simpa using hat
  rw [hc, ← hr.has]
  exact hrun
theorem plainElem_bool_inv {P : Program} {e : TypeId} (he : P.underlying e = some .bool) {v : Value} {z : DataW Unit × List MemPlace} (h : plainElem P e v = some z) : ∃ c : Bool, v = .bool c ∧ z = (.lit (.bool c), []) := by
  unfold plainElem at h
  rw [he] at h
  cases v <;> simp at h
  exact ⟨_, rfl, h.symm⟩
theorem MapN.look {w : World} {b n : Nat} {ns : List Nod} (h : MapN w b n ns) {i : Int} (hi : (Lit.int .i64 i).wf = true) :
    (Instr.lookup 116 (.map (some b)) (.int .i64 i) false).run Tryz.prog w = .ok (.bool (nodeIx ns i).isSome) w := by
  obtain ⟨D, ho, hr⟩ := h
  obtain ⟨v, ps, hrun, hv⟩ := ho.lookup lawI Tryz.underlying116 (zB _) (plainElem_bool Tryz.underlying4 false) (keyOf_int_mk Tryz.underlying3 hi)
  obtain ⟨c, rfl, hc⟩ := plainElem_bool_inv Tryz.underlying4 hv
  have hat := congrArg Prod.fst hc
  simp only [] at hat
  rw [hr.2] at hat
  have hc : (nodeIx ns i).isSome = c := by
    cases e : (nodeIx ns i).isSome with
    | false => rw [e] at hat; simpa using hat
    | true => rw [e] at hat; simpa using hat
  rw [hc]
  exact hrun

/-- what a step does to the map: it is done, or nothing has turned -/
def StepR (b n : Nat) (w : World) (l : List Ent) (o : Option (List Ent)) (e : Ending) (w' : World) : Prop :=
  e = .returned (.bool o.isSome) ∧ MapE w' b (n + 1) (o.getD l) ∧ w.grownBy w' (some b)
theorem grown_but {w w' : World} (h : Below w.heap.size w w') (row : Option Nat) : w.grownBy w' row := ⟨h.os, h.tape, h.output, h.size, fun i hi _ => h.block i hi⟩
theorem grown_then {w w1 w2 : World} {b : Nat} (h : Below w.heap.size w w1) (k : w1.grownBy w2 (some b)) : w.grownBy w2 (some b) :=
  ⟨k.os.trans h.os, k.tape.trans h.tape, k.output.trans h.output, Nat.le_trans h.size k.size, fun i hi hne => (k.block i (Nat.lt_of_lt_of_le hi h.size) hne).trans (h.block i hi)⟩

set_option maxHeartbeats 400000 in
set_option maxRecDepth 100000 in
theorem implDrop (b n : Nat) (l : List Ent) (s : ByteArray) (w : World) (hs : s.size ≤ 1048576) (h : MapE w b n l) (hl : Nok l) (hg : nam.Hand w) :
    Calls Tryz.prog 135 #[.map (some b), .string s] w (StepR b n w l (if hasE l s = true then some (dropE l s) else none)) := by
  have hm : s.size ≤ maxLen := by unfold maxLen; omega
  have hlk := h.look_ok hm
  have HM := Lib.hid h
  clear h
  cases hh : hasE l s with
  | false =>
    rw [hh] at hlk
    go_enter Tryz.func135, Tryz.ntmps135
    go_wp2
    go_ret
    exact ⟨rfl, HM.out.mono (Nat.le_succ _), grown_but (Below.refl _ _) _⟩
  | true =>
    rw [hh] at hlk
    have hn : nam.nok s = true := by
      cases e : entAt l s with
      | none => unfold hasE at hh; rw [e] at hh; cases hh
      | some i => exact hl _ (at_mem e)
    have CN := nam.implOk_any s w hs hg
    rw [hn] at CN
    have CC := Lib.hid CN
    obtain ⟨D, ho, hr, hsr⟩ := HM.out
    have HO := Lib.hid ho
    have HR := Lib.hid hr
    have HS := Lib.hid hsr
    clear CN hn hh ho hr hsr HM hl
    go_enter Tryz.func135, Tryz.ntmps135
    go_wp2_with (first
      | (go_at_call 121; refine CC.out.mono ?_; rintro e w1 ⟨rfl, hb1⟩; have hown1 := HO.out.kept (row := none) (grown_of_below hb1) (by simp))
      | (at_delete; refine wpList_delete_own _ rfl _ _ 97 9 rfl 3 lawS Tryz.underlying97 _ b n D rfl hown1 _ _ rfl (keyOf_string_mk Tryz.underlying9 hm) ?_; intro w2 hown2 hturn2))
    go_ret
    exact ⟨rfl, ⟨_, hown2.mono (Nat.le_succ _), HR.out.del s, drop_srt s HS.out⟩, grown_then hb1 hturn2.grown⟩

end Go.Proofs.YtgcpgoehnjkpbaaGreatDoor.ik
