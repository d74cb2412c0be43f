/-
  Contracts of the landed scanning: whether the mark stands there; the method that hands over record by record.
-/
import Derived.Test.YtbgkdngeingmnaaRgM
import Derived.Test.YtbgkdngeingmnaaFrQ
import Derived.Test.YtbgkdngeingmnaaHdP
import Derived.Test.YtbgkdngeingmnaaScP
namespace Go.Proofs.Ytbgkdngeingmnaa.sc
set_option maxRecDepth 20000
open Go.RowKit
open kit sum num burst hd fr rg

attribute [local go_sem] Oper.semAt_some

theorem isMarked_any (h : Hd) (b : ByteArray) (k a : Int) (w : World) (hm : b.size ≤ 1048576) (hk0 : 0 ≤ k) (hk1 : k ≤ 1048576) (hb0 : 0 ≤ h.b) (hb1 : h.b ≤ 1000000000) :
    Calls Try.prog 44 #[.agg #[.int .i64 h.v, .int .i64 h.s, .int .i64 h.b, .int .i64 h.l, .string b], .int .i64 k, .int .i64 a] w fun e w' => e = .returned (.bool (mkAt h.v (h.b + k) b a)) ∧ Below w.heap.size w w' := by
  have C := Lib.hid (fun w => implMarkAt_any h.v (h.b + k) b a w hm)
  have hB := Lib.hid ((Below.refl w.heap.size w).alloc (Nat.le_refl _) (.cells #[.int .i64 h.v, .int .i64 h.s, .int .i64 h.b, .int .i64 h.l, .string b] 50))
  go_enter Try.func44, Try.ntmps44
  go_wp2_with fail
  refine (C.out _).mono ?_
  rintro e w1 ⟨rfl, b1⟩
  have BB := Lib.hid (hB.out.trans (b1.mono hB.out.size))
  clear b1 hB
  go_wp2
  go_ret
  exact ⟨rfl, BB.out⟩

/-- a block that holds a head and a text -/
def isHT (o : Obj) : Prop := ∃ cs, o = .cells cs 50
theorem isHT_cells (o : Obj) (h : isHT o) : o.isCells = true := by
  obtain ⟨cs, rfl⟩ := h
  rfl

theorem ht_cells {w : World} {g : Nat} {h : Hd} {b : ByteArray} (H : w.heap[g]? = some (.cells #[.int .i64 h.v, .int .i64 h.s, .int .i64 h.b, .int .i64 h.l, .string b] 50)) :
    w.cell? ⟨g, 0, none⟩ = some (.int .i64 h.v) ∧ w.cell? ⟨g, 1, none⟩ = some (.int .i64 h.s) ∧ w.cell? ⟨g, 2, none⟩ = some (.int .i64 h.b) ∧ w.cell? ⟨g, 3, none⟩ = some (.int .i64 h.l) ∧ w.cell? ⟨g, 4, none⟩ = some (.string b) :=
  ⟨cell_of_row _ _ _ _ _ _ H, cell_of_row _ _ _ _ _ _ H, cell_of_row _ _ _ _ _ _ H, cell_of_row _ _ _ _ _ _ H, cell_of_row _ _ _ _ _ _ H⟩
theorem heap_below {w w' : World} {g : Nat} {o : Obj} (H : w.heap[g]? = some o) (hb : Below w.heap.size w w') : w'.heap[g]? = some o := (hb.block _ (Array.getElem?_eq_some_iff.1 H).1).trans H

set_option maxHeartbeats 4000000 in
set_option maxRecDepth 100000 in
theorem each_gives (h : Hd) (b : ByteArray) (hm : b.size ≤ 1048576) (hx : rdH b = some h) (B : Nat) :
    Gives Try.prog 43 (.agg #[.int .i64 h.v, .int .i64 h.s, .int .i64 h.b, .int .i64 h.l, .string b]) (fun x : ByteArray × Nat => #[Value.string x.1, .int .i64 (x.2 : Int)])
      (fun (s : List (ByteArray × Nat) × Nat) x s' => step h b s.1.length s.2 = some x ∧ s' = (s.1 ++ [(x.1, s.2)], x.2)) ([], 24) (fun s => step h b s.1.length s.2 = none) isHT B := fun l J W hBW hJ hY h0 => by
  have HS := Lib.hid (Inv.start hx)
  have hok := okH_is.1 HS.out.ok
  have hb64 := hok.2.2.2.2.2.1
  have hb65 := hok.2.2.2.2.1
  clear hok
  have hal := (Below.refl W.heap.size W).alloc (Nat.le_refl _) (.cells #[.int .i64 h.v, .int .i64 h.s, .int .i64 h.b, .int .i64 h.l, .string b] 50)
  have J0 := Lib.hid (hJ _ _ _ h0 hal)
  have H0 := Lib.hid (heap_alloc_new W (.cells #[.int .i64 h.v, .int .i64 h.s, .int .i64 h.b, .int .i64 h.l, .string b] 50))
  have YY := Lib.hid hY
  have JJ := Lib.hid hJ
  clear hal hJ hY h0
  refine callsIn_of_wp Try.func43 rfl trivial ?_ rfl
  simp only [Try.ntmps43, List.size_toArray, List.length_cons, List.length_nil, Nat.reduceAdd, Nat.reduceSub, Array.replicate_succ, Array.replicate_zero, List.push_toArray, List.append_toArray, List.nil_append, List.cons_append]
  gi_wp2
  gi_loopw [4, 5, 6, 7, 8] (fun a c _ _ _ wr => ∃ (xs : List (ByteArray × Nat)) (e : Nat), a = .int .i64 (e : Int) ∧ c = .int .i64 (xs.length : Int) ∧ Hid (Inv h b xs e) ∧ Hid (J (xs, e) wr) ∧ Hid (wr.heap[W.heap.size]? = some (.cells #[.int .i64 h.v, .int .i64 h.s, .int .i64 h.b, .int .i64 h.l, .string b] 50))) (fun a _ _ _ _ _ => b.size - (intOf a).toNat)
  case atStart => exact ⟨[], 24, rfl, rfl, HS, J0, H0⟩
  case round =>
    obtain ⟨xs, e, rfl, rfl, II, JX, HH⟩ := hrel
    have hcount := II.out.count
    have hhi := II.out.hi
    have CM := Lib.hid (fun w => isMarked_any h b (xs.length : Int) (e : Int) w hm (by omega) (by omega) hb65 hb64)
    have CR := Lib.hid (fun w => implReadF_any h.v (h.b + (xs.length : Int)) b (e : Int) w hm)
    obtain ⟨q0, q1, q2, q3, q4⟩ := ht_cells HH.out
    cases hmk : mkAt h.v (h.b + (xs.length : Int)) b (e : Int) with
    | true =>
      rw [hmk] at CM
      gi_wp2_with fail
      refine ⟨trivial, (callsIn_wide.2 (CM.out _)).mono ?_⟩
      rintro e' w2 ⟨rfl, b2⟩
      have HE := Lib.hid (JJ.out _ _ _ JX.out b2)
      clear b2
      gi_wp2
      go_end0
      exact ⟨⟨_, rfl⟩, (xs, e), step_mark hmk, HE.out⟩
    | false =>
      rw [hmk] at CM
      gi_wp2_with fail
      refine ⟨trivial, (callsIn_wide.2 (CM.out _)).mono ?_⟩
      rintro e' w2 ⟨rfl, b2⟩
      have J2 := Lib.hid (JJ.out _ _ _ JX.out b2)
      have H2 := Lib.hid (heap_below HH.out b2)
      clear b2 q0 q1 q2 q3 q4 CM
      obtain ⟨q0, q1, q2, q3, q4⟩ := ht_cells H2.out
      cases hrd : rdF h.v (h.b + (xs.length : Int)) b (e : Int) with
      | none =>
        rw [hrd, show frR none = .tuple #[.string { data := #[] }, .int .i64 0, .bool false] from rfl] at CR
        gi_wp2_with fail
        refine ⟨trivial, (callsIn_wide.2 (CR.out _)).mono ?_⟩
        rintro e' w3 ⟨rfl, b3⟩
        have HE := Lib.hid (JJ.out _ _ _ J2.out b3)
        clear b3
        gi_wp2
        refine ⟨fun _ hh => (by cases hh), ?_⟩
        gi_wp2
        refine bodyPost_ret (results_none rfl _ _ _) rfl ?_
        exact ⟨⟨_, rfl⟩, (xs, e), by rw [step_read hmk]; exact hrd, HE.out⟩
      | some y =>
        obtain ⟨s, q⟩ := y
        have hst : step h b xs.length e = some (s, q) := by rw [step_read hmk]; exact hrd
        have hqf := step_facts hst
        have IN := Lib.hid (II.out.next hst)
        have hq5 : e + 5 ≤ q := hqf.2.2.1
        have hqb : q ≤ b.size := hqf.2.2.2.1
        clear hqf
        rw [hrd, show frR (some (s, q)) = .tuple #[.string s, .int .i64 (q : Int), .bool true] from rfl] at CR
        clear hrd hmk
        gi_wp2_with fail
        refine ⟨trivial, (callsIn_wide.2 (CR.out _)).mono ?_⟩
        rintro e' w3 ⟨rfl, b3⟩
        have H3 := Lib.hid (heap_below H2.out b3)
        obtain ⟨fn, tmps, assign, body, hy, hR⟩ := YY.out (xs, e) (s, q) _ w3 ⟨hst, rfl⟩ (JJ.out _ _ _ J2.out b3)
        dsimp only at hy
        clear b3 hst
        gi_wp2
        refine hR.mono ?_
        rintro e2 w4 ⟨rfl, hJ4, st⟩
        have J4 := Lib.hid hJ4
        have H4 := Lib.hid (st.same _ _ hBW H3.out ⟨_, rfl⟩)
        clear hJ4 st hy hR
        gi_wp2
        go_roundw
        case rel => exact ⟨_, q, rfl, by simp, IN, J4, H4⟩
        case measure =>
          simp [intOf]
          omega

end Go.Proofs.Ytbgkdngeingmnaa.sc
