/-
  The walk of FnTails.
-/
import Derived.Test.YtbgkdngeingmnaaScZ
namespace Go.Proofs.Ytbgkdngeingmnaa.sc
set_option maxRecDepth 20000
open Go.RowKit
open kit sum num burst hd fr

theorem tails_big (a : Option Addr) (len cap : Nat) (w : World) (h : 1048576 < len) :
    Calls Try.prog 4 #[.slice a len cap] w fun e w' => e = .returned (.bool true) ∧ Below w.heap.size w w' := by
  go_enter Try.func4, Try.ntmps4
  go_wp2_with (go_at_call 12; refine (big_yes _ _ _ _ h).mono ?_; rintro e w' ⟨rfl, rfl⟩)
  go_ret
  exact ⟨rfl, Below.refl _ _⟩
theorem field_ok (k m : Bool) (v s bb l e : Int) (a a2 : Option Addr) (n c n2 c2 : Nat) (w : World) : (Instr.field 30 (.agg #[.bool k, .int .i64 v, .int .i64 s, .int .i64 bb, .int .i64 l, .slice a n c, .slice a2 n2 c2, .int .i64 e, .bool m]) 0).run Try.prog w = .ok (.bool k) w := by rfl
/-- a text too short for a frame behind its head -/
theorem end_short {b : ByteArray} {h : Hd} (hx : rdH b = some h) (hs : b.size < 29) : endN b = 24 := by
  have hst : step h b ([] : List (ByteArray × Nat)).length 24 = none := by
    cases e : step h b ([] : List (ByteArray × Nat)).length 24 with
    | none => rfl
    | some y =>
      obtain ⟨r, q⟩ := y
      have := step_facts e
      omega
  rw [endN_some hx, (Inv.start hx).done hst]
def oneX : ByteArray := { data := #[120] }
theorem head_nul : hdT ⟨1, 1, 0, 0⟩ ++ nul = hdT ⟨1, 1, 0, 0⟩ := by
  have h1 := txt_self (hdT ⟨1, 1, 0, 0⟩)
  have h2 := txt_self (hdT ⟨1, 1, 0, 0⟩ ++ nul)
  rw [nats_app0, show nats nul 0 = [] from rfl, List.append_nil] at h2
  exact h2.symm.trans h1
theorem open_first : openB (hdT ⟨1, 1, 0, 0⟩) = true := by
  have h := rdH_hdT first_ok nul
  rw [head_nul] at h
  have hs := hdT_size first_ok
  unfold openB
  rw [h, end_short h (by omega), hs]
  rfl
theorem tail_first : tailT (hdT ⟨1, 1, 0, 0⟩ ++ oneX) = oneX := by
  have h := rdH_hdT first_ok oneX
  have hs := hdT_size first_ok
  have ho : oneX.size = 1 := rfl
  have hl : (hdT ⟨1, 1, 0, 0⟩ ++ oneX).size = 25 := by rw [ByteArray.size_append, hs, ho]
  unfold tailT
  rw [end_short h (by omega), hl]
  apply ByteArray.ext
  rw [ByteArray.data_extract, ByteArray.data_append, Array.extract_append]
  rw [ByteArray.size_data, hs]
  simp
  rfl
theorem tail_size (b : ByteArray) : (tailT b).size = b.size - endN b := by
  unfold tailT
  rw [ByteArray.size_extract]
  omega

set_option maxHeartbeats 1500000 in
set_option maxRecDepth 20000 in
theorem tails_small (a : Option Addr) (len cap : Nat) (w : World) (hc : draw.CodeAt w w.heap.size a len) :
    Calls Try.prog 4 #[.slice a len cap] w fun e w' => e = .returned (.bool true) ∧ Below w.heap.size w w' := by
  have HC := Lib.hid hc
  have hlen := hc.1
  clear hc
  go_enter Try.func4, Try.ntmps4
  go_wp2_with (fail)
  refine (big_no _ _ _ _ hlen).mono ?_
  rintro e w' ⟨rfl, rfl⟩
  clear hlen
  go_wp2_with (fail)
  refine (draw.drawTail_any a len cap w HC.out).mono ?_
  rintro e w1 ⟨⟨b, hb, rfl⟩, b1⟩
  have B1 := Lib.hid b1
  have hm : b.size ≤ 1048576 := by omega
  have hh := hdT_le ⟨1, 1, 0, 0⟩
  have hh2 := hdT_le ⟨1, 1, 0, 0⟩
  have CI := Lib.hid (fun w => implTail b w hm)
  have CT := Lib.hid (fun w => specTail b w hm)
  have CH := Lib.hid (fun w => specHeadText 1 1 0 0 w)
  have CZ := Lib.hid (fun w => specSize b w hm)
  have CO := Lib.hid (fun w => implOpen b w hm)
  have CP := Lib.hid (fun w => specOpen b w hm)
  have CS := Lib.hid (fun w => specScan b w hm)
  have CF := Lib.hid (fun w => implOpen (hdT ⟨1, 1, 0, 0⟩) w (by omega))
  have CX := Lib.hid (fun w => implTail (hdT ⟨1, 1, 0, 0⟩ ++ oneX) w (by rw [ByteArray.size_append, show oneX.size = 1 from rfl]; omega))
  rw [open_first] at CF
  rw [tail_first] at CX
  have hel := endN_le b
  have hts := tail_size b
  have HO := Lib.hid (show openB b = ((rdH b).isSome && decide (endN b = b.size)) from by unfold openB; congr 1; rw [Bool.eq_iff_iff]; simp; omega)
  clear b1 hh
  obtain ⟨T, hT⟩ : ∃ T, tailT b = T := ⟨_, rfl⟩
  obtain ⟨H, hH⟩ : ∃ H, hdT ⟨1, 1, 0, 0⟩ = H := ⟨_, rfl⟩
  obtain ⟨E, hE⟩ : ∃ E, endN b = E := ⟨_, rfl⟩
  obtain ⟨O, hO⟩ : ∃ O, openB b = O := ⟨_, rfl⟩
  rw [hT] at CI CT hts
  rw [hH] at CH CF CX hh2
  rw [hE] at CZ HO hel hts
  rw [hO] at CO CP HO
  clear hT hH hE hO
  go_wp2_with (fail)
  refine (CI.out _).mono ?_
  rintro e w2 ⟨rfl, b2⟩
  have B2 := Lib.hid (B1.out.trans (b2.mono B1.out.size))
  clear b2
  go_wp2_with (fail)
  refine (CH.out _).mono ?_
  rintro e w3 ⟨rfl, b3⟩
  have B3 := Lib.hid (B2.out.trans (b3.mono B2.out.size))
  clear b3
  go_wp2_with (fail)
  refine (CT.out _).mono ?_
  rintro e w4 ⟨rfl, b4⟩
  have B4 := Lib.hid (B3.out.trans (b4.mono B3.out.size))
  clear b4
  have e1 : (T.toList == T.toList) = true := beq_self_eq_true _
  go_wp2_with (fail)
  refine (CZ.out _).mono ?_
  rintro e w5 ⟨rfl, b5⟩
  have B5 := Lib.hid (B4.out.trans (b5.mono B4.out.size))
  clear b5
  have e2 : ((E : Int) + (T.size : Int) == (b.size : Int)) = true := by rw [beq_iff_eq]; omega
  have e3 : (oneX.toList == [120]) = true := by simp [oneX, go_sem]
  have e4 : (O == O) = true := beq_self_eq_true _
  go_wp2_with (fail)
  refine (CO.out _).mono ?_
  rintro e w6 ⟨rfl, b6⟩
  have B6 := Lib.hid (B5.out.trans (b6.mono B5.out.size))
  clear b6
  go_wp2_with (fail)
  refine (CP.out _).mono ?_
  rintro e w7 ⟨rfl, b7⟩
  have B7 := Lib.hid (B6.out.trans (b7.mono B6.out.size))
  clear b7
  go_wp2_with (fail)
  refine (CO.out _).mono ?_
  rintro e w8 ⟨rfl, b8⟩
  have B8 := Lib.hid (B7.out.trans (b8.mono B7.out.size))
  clear b8
  by_cases hz : T.size = 0
  · obtain rfl : T = { data := #[] } := by
      apply ByteArray.ext
      exact Array.eq_empty_of_size_eq_zero hz
    have hE : E = b.size := by omega
    obtain ⟨k, hsome⟩ : ∃ k, (rdH b).isSome = k := ⟨_, rfl⟩
    have hOk : O = k := by rw [HO.out, hsome, decide_eq_true hE, Bool.and_true]
    subst hOk
    go_wp2_with (fail)
    refine (CS.out _).mono ?_
    rintro e w9 ⟨⟨v9, rfl, o9⟩, b9⟩
    have B9 := Lib.hid (B8.out.trans (b9.mono B8.out.size))
    obtain ⟨p9, q9, r9, t9, rfl⟩ := o9.form
    have hfd := fun (w : World) => field_ok (rdH b).isSome (marked b) (hdOf b).v (hdOf b).s (hdOf b).b (hdOf b).l (endN b : Int) p9 r9 (recs b).length q9 (recs b).length t9 w
    rw [hsome] at hfd ⊢
    clear o9 b9
    go_wp2_with (fail)
    refine (CF.out _).mono ?_
    rintro e w10 ⟨rfl, b10⟩
    have B10 := Lib.hid (B9.out.trans (b10.mono B9.out.size))
    clear b10
    go_wp2_with (fail)
    refine (CX.out _).mono ?_
    rintro e w11 ⟨rfl, b11⟩
    have B11 := Lib.hid (B10.out.trans (b11.mono B10.out.size))
    clear b11
    go_wp2
    go_ret
    exact ⟨rfl, B11.out⟩
  · have e5 : (T.toList == ({ data := #[] } : ByteArray).toList) = false := str_ne fun h => hz (by rw [h]; rfl)
    have hOf : O = false := by rw [HO.out, decide_eq_false (show ¬ E = b.size by omega), Bool.and_false]
    subst hOf
    have hne : ¬ T.toList = [] := fun h => by
      rw [h] at e5
      simp [go_sem] at e5
    have e6 : T.toList.isEmpty = false := List.isEmpty_eq_false_iff.2 hne
    clear e5
    go_wp2_with (fail)
    refine (CF.out _).mono ?_
    rintro e w9 ⟨rfl, b9⟩
    have B9 := Lib.hid (B8.out.trans (b9.mono B8.out.size))
    clear b9
    go_wp2_with (fail)
    refine (CX.out _).mono ?_
    rintro e w10 ⟨rfl, b10⟩
    have B10 := Lib.hid (B9.out.trans (b10.mono B9.out.size))
    clear b10
    go_wp2
    go_ret
    exact ⟨rfl, B10.out⟩

end Go.Proofs.Ytbgkdngeingmnaa.sc
