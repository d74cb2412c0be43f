/-
  PROVED: 'Rows.FnExactPartsOfSaid': for every string the call laws.FnExactPartsOf returns true (impl.PartsOf answers as spec.PartsOf, its answer shares no memory with the answer of another call), and the argument reads as it did.
  CONDITIONS: none beyond the given row's own.
-/
import Derived.Test.YtkeeoicpidlbiaaRows
import Derived.Test.YtkeeoicpidlbiaaPartB
import Derived.Test.YtkeeoicpidlbiaaStrs
import Derived.WalkKit
import Derived.ProofKit
import Derived.OpenShut
import Derived.ShutString
namespace Go.Proofs.Ytkeeoicpidlbiaa.fnExactPartsOf
open kit
open Go.ChangeShapes Go.WideShapes Go.ChangeAt Go.RowKit
open Go.ChangeMaps (open_string shut_string)
set_option linter.unusedVariables false      -- a walk need not use every 'w<i>' (that an integer argument fits its kind)

theorem resP_len (s : ByteArray) : (part.resP s).length ≤ 12 := by
  unfold part.resP
  split
  · rename_i h
    unfold part.okP at h
    simp only [Bool.and_eq_true, decide_eq_true_eq] at h
    exact h.2
  · exact Nat.zero_le _
theorem spec_all (s : ByteArray) (w : World) : Calls Try.prog 11 #[.string s] w (part.Post s w) := by
  by_cases h : s.size ≤ 600
  · exact part.specParts_any s w h
  · exact part.specParts_long s w (by omega)
theorem impl_all (s : ByteArray) (w : World) : Calls Try.prog 12 #[.string s] w (part.Post s w) := by
  by_cases h : s.size ≤ 600
  · exact part.implParts_any s w h
  · exact part.implParts_long s w (by omega)
theorem mark_one {B : Nat} {v : Value} {n : Nat} {xs : List ByteArray} (w : World) (hn : n ≤ 12) (hv : w.ownsRow B 9 1 v n (xs.map Value.string)) :
    Calls Try.prog 14 #[v, .int .i64 1] w fun e w' => e = .returned (.int .i64 ((1 + n : Nat) : Int)) ∧ w'.ownsRow B 9 1 v n ((strs.marks 1 n).map Value.string) ∧ w.grownBy w' v.ownBlock :=
  strs.mark_any (k := 1) w (by omega) (by omega) hv
theorem held_one {B : Nat} {v : Value} {n : Nat} (w : World) (hn : n ≤ 12) (hv : w.ownsRow B 9 1 v n ((strs.marks 1 n).map Value.string)) :
    Calls Try.prog 15 #[v, .int .i64 1] w fun e w' => e = .returned (.int .i64 ((1 + n : Nat) : Int)) ∧ Below w.heap.size w w' :=
  strs.held_any (k := 1) w (by omega) (by omega) hv

theorem own : ownKnob Try.prog.godebug = none := by kernel_rfl

set_option maxHeartbeats 1000000 in
theorem walk (a0 : ByteArray) (w0 : a0.size ≤ maxLen) (w : World) :
    Calls Try.prog 5 #[.string a0] w fun e w' => e = .returned (.bool true) ∧ Below w.heap.size w w' := by
  unfold maxLen at w0
  by_cases h1 : 1048576 < a0.size
  · go_enter Try.func5, Try.ntmps5
    go_wp2
    go_ret
    exact ⟨rfl, Below.refl _ _⟩
  · have hn := resP_len a0
    obtain ⟨n, hn'⟩ : ∃ n, (part.resP a0).length = n := ⟨_, rfl⟩
    obtain ⟨ok, hok⟩ : ∃ ok, part.okP a0 = ok := ⟨_, rfl⟩
    rw [hn'] at hn
    have HN := Lib.hid hn'
    have HO := Lib.hid hok
    clear hn' hok
    go_enter Try.func5, Try.ntmps5
    go_wp2_with fail
    refine (spec_all a0 _).mono ?_
    rintro e w1 ⟨v0, rfl, own0, b01⟩
    rw [HO.out]
    rw [HN.out] at own0
    go_wp2_with fail
    refine (impl_all a0 _).mono ?_
    rintro e w2 ⟨v1, rfl, own1, b12⟩
    rw [HO.out]
    rw [HN.out] at own1
    have own0a := own_below own0 b12
    cases ok
    all_goals
      go_wp2_with fail
      refine (strs.eqStr_any w2 own1 own0a).mono ?_
      rintro e w3 ⟨rfl, b23⟩
      have own0b := own_below own0a b23
      have own1b := own_below own1 b23
      go_wp2_with fail
      refine (mark_one w3 (by omega) own1b).mono ?_
      rintro e w4 ⟨rfl, own1c, g34⟩
      have hne : v0.ownBlock = none ∨ v0.ownBlock ≠ v1.ownBlock := by
        cases e0 : v0.ownBlock with
        | none => exact .inl rfl
        | some x =>
          refine .inr fun e1 => ?_
          have l0 := (own0.lt x e0).2
          have l1 := (own1.lt x e1.symm).1
          omega
      have own0c := own0b.kept g34 hne
      go_wp2_with fail
      refine (held_one w4 (by omega) own1c).mono ?_
      rintro e w5 ⟨rfl, b45⟩
      have own0d := own_below own0c b45
      have own1d := own_below own1c b45
      go_wp2_with fail
      refine (impl_all a0 _).mono ?_
      rintro e w6 ⟨v2, rfl, own2, b56⟩
      rw [HO.out]
      rw [HN.out] at own2
      have own0e := own_below own0d b56
      have own1e := own_below own1d b56
      go_wp2_with fail
      refine (strs.eqStr_any w6 own2 own0e).mono ?_
      rintro e w7 ⟨rfl, b67⟩
      have own1f := own_below own1e b67
      go_wp2_with fail
      refine (held_one w7 (by omega) own1f).mono ?_
      rintro e w8 ⟨rfl, b78⟩
      have s1 := b01.size
      have s2 := b12.size
      have s3 := b23.size
      have s4 := g34.size
      have s5 := b45.size
      have s6 := b56.size
      have s7 := b67.size
      have t4 : Below w.heap.size w w4 := ((b01.trans (b12.mono s1)).trans (b23.mono (by omega))).grown g34 (by omega) (fun k hk => by have := (own1.lt k hk).1; omega)
      have t8 : Below w.heap.size w w8 := (((t4.trans (b45.mono (by omega))).trans (b56.mono (by omega))).trans (b67.mono (by omega))).trans (b78.mono (by omega))
      clear s1 s2 s3 s4 s5 s6 s7 t4
      go_wp2
      go_ret
      exact ⟨rfl, t8⟩

set_option maxRecDepth 100000 in
theorem lifted (os : Os) (started : os.Started) (H : Type) (enc : TypeId × Value → H) :
    ReturnsInHanded {} Try.checked os 5 .any (Rows.fnExactPartsOfSpec.pre6 enc Try.prog Try.f5 Rows.fnExactPartsOfRow.domain false) (Rows.fnExactPartsOfSpec.post enc Try.prog Try.f5 false true false false) := by
  refine returnsInHanded_of_change (C := Try.checked) own started (by kernel_rfl) Try.func5
    (ChangeSpec.witness6 (enc := enc) (C := Try.checked) false ⟨#[], #[.string ByteArray.empty], []⟩ 8 (by kernel_rfl) (by kernel_rfl) (by kernel_rfl) (by kernel_rfl)) ?_
  intro W base args ds gs before hval0 hW hcnd _
  have hval : ∀ (j : Nat) t v, Try.f5.params[j]? = some t → args[j]? = some v → Value.okWide Try.prog W .any base t v := hval0
  have hW' := hW
  obtain ⟨p, q, hA0, hV, rfl, hfz, hnd⟩ := hW
  have hA : DataW.TrodAll enc Try.prog W 0 (fun _ => true) true Try.f5.params.toList args.toList ds p := hA0
  rw [Try.params5] at hA hval
  obtain ⟨v0, vs0, d0, ds0, p0, q0, hargs, rfl, rfl, h0, r0⟩ := trodAll_cons hA
  obtain ⟨rfl, rfl, rfl⟩ := trodAll_nil r0
  obtain rfl : args = #[v0] := by cases args; simp_all
  obtain ⟨rfl, rfl⟩ := trodVars_none hV
  obtain ⟨a0, rfl, rfl, rfl, w0⟩ := open_string Try.underlying9 (hval 0 9 v0 rfl rfl) h0
  clear hA0 hval0
  refine (walk a0 w0 W).mono fun e W' ⟨he, hg⟩ => ?_
  subst he
  exact ⟨_, rfl, _, _, _, [], _, [], hW', (trodAll_cons_mk (shut_bool Try.underlying4 _) trodAll_mk0), (trodAll_cons_mk (shut_string Try.underlying9 w0) trodAll_mk0), rfl, hg.frame _, fun h => by cases h⟩

theorem over : Rows.fnExactPartsOfRow.holds Try.pinned (OpenSpec.ofChange Rows.fnExactPartsOfSpec) :=
  OpenClaim.holds_of_wide 5 Try.f5 rfl rfl rfl rfl rfl rfl rfl ⟨rfl, rfl, rfl, rfl, rfl⟩ rfl rfl rfl rfl rfl (by kernel_rfl) Try.func5 (by kernel_rfl)
    (of_decide_eq_true (by kernel_rfl)) (by unfold Func.isWrapper; first | (rw [if_pos (by decide +kernel)]; kernel_rfl) | (rw [if_neg (by decide +kernel)]; exact ⟨rfl, rfl⟩))
    (fun os started H enc _ => lifted os started H enc)

theorem proved : Rows.FnExactPartsOfSaid :=
  over
end Go.Proofs.Ytkeeoicpidlbiaa.fnExactPartsOf
