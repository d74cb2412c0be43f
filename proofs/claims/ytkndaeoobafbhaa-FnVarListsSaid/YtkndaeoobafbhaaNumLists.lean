/-
  The walk of laws.FnVarLists, given what impl's functions answer.
-/
import Derived.Test.YtkndaeoobafbhaaNumG
namespace Go.Proofs.Ytkndaeoobafbhaa.num
open Go.RowKit
open kit

theorem ab_list (xs : List Int) (hl : xs.length ≤ 1000) (h : xs.all okI = true) : rvs (({ data := #[97, 98] } ++ vl xs) ++ { data := #[122] }) 2 = (xs, ((2 + (vl xs).size : Nat) : Int), true) := by
  rw [ByteArray.append_assoc]
  exact rvs_vl xs hl h { data := #[97, 98] } { data := #[122] }

theorem at_nil (w : World) : ints.At w none 0 [] := ⟨rfl, .inl rfl⟩

set_option maxHeartbeats 8000000 in
set_option maxRecDepth 20000 in
set_option linter.unusedSimpArgs false in
theorem lists_small (G : World → Prop) (I : Impl G) (a : Option Addr) (len cap : Nat) (w : World) (hc : draw.CodeAt w w.heap.size a len) (hG : G w) :
    Calls Try.prog 4 #[.slice a len cap] w fun e w' => e = .returned (.bool true) ∧ Below w.heap.size w w' := by
  have HC := Lib.hid hc
  have HG := Lib.hid hG
  have HI := Lib.hid I
  have hlen := hc.1
  clear hc hG I
  go_enter Try.func4, Try.ntmps4
  go_wp2_with fail
  refine (big_no a len cap w hlen).mono ?_
  rintro e w' ⟨rfl, rfl⟩
  go_wp2_with fail
  refine (draw.varList_any a len cap w HC.out).mono ?_
  rintro e w1 ⟨al, cl, nl, ls, hnl, rfl, hown1, b1⟩
  have L1 := ints.At.of_own hown1
  clear hown1
  go_wp2_with fail
  refine (HI.out.list al cl nl ls w1 (by omega) L1 (HI.out.keep _ _ HG.out b1)).mono ?_
  rintro e w2 ⟨rfl, c2⟩
  have b2 := chain b1 c2
  have L2 := L1.below c2
  clear c2 b1 L1
  go_wp2_with fail
  refine (draw.readVars_any a len cap w2 ((HC.out.below b2).raise b2.size)).mono ?_
  rintro e w3 ⟨⟨b, at0, hsz, rfl⟩, c3⟩
  have b3 := chain b2 c3
  have L3 := L2.below c3
  clear c3 b2 L2
  go_wp2_with fail
  refine (HI.out.vars b at0 w3 (by omega) (HI.out.keep _ _ HG.out b3)).mono ?_
  have hlr := len_rvs b at0
  have hform := vl_rvs b at0
  obtain ⟨xs, hxs⟩ : ∃ xs, (rvs b at0).1 = xs := ⟨_, rfl⟩
  obtain ⟨q, hq⟩ : ∃ q, (rvs b at0).2.1 = q := ⟨_, rfl⟩
  obtain ⟨o, ho⟩ : ∃ o, (rvs b at0).2.2 = o := ⟨_, rfl⟩
  have hf2 : o = false ∨ o = true ∧ ∃ p r : Nat, at0 = p ∧ q = (r : Int) ∧ p ≤ r ∧ r ≤ b.size ∧ vl xs = b.extract p r := by
    rcases hform with h | ⟨p, r, h1, h2, h3, h4, h5⟩
    · exact .inl (by rw [← ho]; exact h)
    · exact .inr ⟨by rw [← ho, h2], p, r, h1, by rw [← hq, h2], h3, h4, by rw [← hxs]; exact h5⟩
  have HF := Lib.hid hf2
  have HX := Lib.hid hxs
  have HQ := Lib.hid hq
  have HO := Lib.hid ho
  rw [hxs] at hlr
  obtain ⟨n, hn⟩ : ∃ n, xs.length = n := ⟨_, rfl⟩
  have HN := Lib.hid hn
  rw [hn] at hlr
  clear hform hf2
  rintro e w4 ⟨v4, rfl, hown4, c4⟩
  rw [hxs, hn] at hown4
  rw [hq, ho]
  clear hxs hq ho hn
  obtain ⟨a4, k4, rfl⟩ := own_slice hown4
  have A4 := ints.At.of_own hown4
  have b4 := chain b3 c4
  have L4 := L3.below c4
  clear hown4 c4 b3 L3
  go_wp2_with fail
  refine (specVars_any b at0 w4 (by omega)).mono ?_
  rintro e w5 ⟨v5, rfl, hown5, c5⟩
  rw [HX.out, HN.out] at hown5
  rw [HQ.out, HO.out]
  obtain ⟨a5, k5, rfl⟩ := own_slice hown5
  have W5 := ints.At.of_own hown5
  have A5 := A4.below c5
  have b5 := chain b4 c5
  have L5 := L4.below c5
  clear hown5 c5 b4 L4 A4 HX HQ HO HN
  obtain ⟨T, hT⟩ : ∃ T, vl ls = T := ⟨_, rfl⟩
  rw [hT]
  have HT := Lib.hid hT
  clear hT
  have hml : n ≤ maxLen := by unfold maxLen; omega
  go_upto_region 8 with fail
  go_cut [72] from 41 (fun c wx => c = .bool false ∧ Below w5.heap.size w5 wx)
  case first =>
    rcases HF.out with rfl | ⟨rfl, p, r, rfl, rfl, h1, h2, h3⟩
    · refine wp_region_held_drew (S := fun _ => True) (by kernel_rfl) trivial (fun hHeld => ?_)
      refine wpAnyH_take (i := 0) (v := ?tv1) rfl (by kernel_rfl) (by kernel_rfl) (by kernel_rfl) (fun _ _ _ h => h) (Or.inl ⟨by rfl, ?ty1⟩) trivial ?tr1
      case ty1 => (intro w hSw; go_simp; try with_reducible rfl)
      simp only [List.getElem_toArray, List.getElem_cons_succ, List.getElem_cons_zero, Act.put, List.setIfInBounds_toArray, List.set_cons_zero, List.set_cons_succ]
      refine wpAnyH_take (i := 1) (v := ?tv2) rfl (by kernel_rfl) (by kernel_rfl) (by kernel_rfl) (fun _ _ _ h => h) (Or.inl ⟨by rfl, ?ty2⟩) trivial ?tr2
      case ty2 => (intro w hSw; go_simp; try with_reducible rfl)
      simp only [List.getElem_toArray, List.getElem_cons_succ, List.getElem_cons_zero, Act.put, List.setIfInBounds_toArray, List.set_cons_zero, List.set_cons_succ]
      refine wpAnyH_ready (rs := [2]) (by kernel_rfl) (by simp) ?_
      refine AllReadyH.cons rfl (fun K hK => ?_) AllReadyH.nil
      go_simp
      go_wp2_with (first | (go_at_call 28; refine (specList_any al cl nl ls _ (by omega) (L5.below (Below.refl _ _).drew)).mono ?_; rw [HT.out]; rintro e wA ⟨rfl, cA⟩; have dA : Below w5.heap.size w5 wA := chain (Below.refl _ _).drew cA) | (go_at_call 29; refine (same_any a4 a5 k4 k5 n xs _ hml (A5.below dA) (W5.below dA)).mono ?_; rintro e wB ⟨rfl, cB⟩; have dB := chain dA cB) | (go_at_call 24; refine (HI.out.list a4 k4 n xs _ (by omega) (A5.below dB) (HI.out.keep _ _ HG.out (chain b5 dB))).mono ?_; rw [HV.out]; rintro e wC ⟨rfl, cC⟩; have dC := chain dB cC))
      refine hK.out _ _ trivial (fun _ => ?_)
      clear hK K
      refine wpAnyH_take (i := 3) (v := ?tv3) rfl (by kernel_rfl) (by kernel_rfl) (by kernel_rfl) (fun _ _ _ h => h) (Or.inl ⟨by rfl, ?ty3⟩) trivial ?tr3
      case ty3 => (intro w hSw; go_simp; try with_reducible rfl)
      simp only [List.getElem_toArray, List.getElem_cons_succ, List.getElem_cons_zero, Act.put, List.setIfInBounds_toArray, List.set_cons_zero, List.set_cons_succ]
      refine wpAnyH_take (i := 4) (v := ?tv4) rfl (by kernel_rfl) (by kernel_rfl) (by kernel_rfl) (fun _ _ _ h => h) (Or.inl ⟨by rfl, ?ty4⟩) trivial ?tr4
      case ty4 => (intro w hSw; go_simp; try with_reducible rfl)
      simp only [List.getElem_toArray, List.getElem_cons_succ, List.getElem_cons_zero, Act.put, List.setIfInBounds_toArray, List.set_cons_zero, List.set_cons_succ]
      refine wpAnyH_take (i := 5) (v := ?tv5) rfl (by kernel_rfl) (by kernel_rfl) (by kernel_rfl) (fun _ _ _ h => h) (Or.inl ⟨by rfl, ?ty5⟩) trivial ?tr5
      case ty5 => (intro w hSw; go_simp; try with_reducible rfl)
      simp only [List.getElem_toArray, List.getElem_cons_succ, List.getElem_cons_zero, Act.put, List.setIfInBounds_toArray, List.set_cons_zero, List.set_cons_succ]
      refine wpAnyH_take (i := 6) (v := ?tv6) rfl (by kernel_rfl) (by kernel_rfl) (by kernel_rfl) (fun _ _ _ h => h) (Or.inl ⟨by rfl, ?ty6⟩) trivial ?tr6
      case ty6 => (intro w hSw; go_simp; try with_reducible rfl)
      simp only [List.getElem_toArray, List.getElem_cons_succ, List.getElem_cons_zero, Act.put, List.setIfInBounds_toArray, List.set_cons_zero, List.set_cons_succ]
      refine wpAnyH_ready (rs := [7]) (by kernel_rfl) (by simp) ?_
      refine AllReadyH.cons rfl (fun K hK => ?_) AllReadyH.nil
      go_simp
      go_wp2_with (first | (go_at_call 28; refine (specList_any al cl nl ls _ (by omega) (L5.below (Below.refl _ _).drew)).mono ?_; rw [HT.out]; rintro e wA ⟨rfl, cA⟩; have dA : Below w5.heap.size w5 wA := chain (Below.refl _ _).drew cA) | (go_at_call 29; refine (same_any a4 a5 k4 k5 n xs _ hml (A5.below dA) (W5.below dA)).mono ?_; rintro e wB ⟨rfl, cB⟩; have dB := chain dA cB) | (go_at_call 24; refine (HI.out.list a4 k4 n xs _ (by omega) (A5.below dB) (HI.out.keep _ _ HG.out (chain b5 dB))).mono ?_; rw [HV.out]; rintro e wC ⟨rfl, cC⟩; have dC := chain dB cC))
      refine hK.out _ _ trivial (fun _ => ?_)
      clear hK K
      refine wpAnyH_take (i := 8) (v := ?tv7) rfl (by kernel_rfl) (by kernel_rfl) (by kernel_rfl) (fun _ _ _ h => h) (Or.inl ⟨by rfl, ?ty7⟩) trivial ?tr7
      case ty7 => (intro w hSw; go_simp; try with_reducible rfl)
      simp only [List.getElem_toArray, List.getElem_cons_succ, List.getElem_cons_zero, Act.put, List.setIfInBounds_toArray, List.set_cons_zero, List.set_cons_succ]
      refine wpAnyH_take (i := 9) (v := ?tv8) rfl (by kernel_rfl) (by kernel_rfl) (by kernel_rfl) (fun _ _ _ h => h) (Or.inl ⟨by rfl, ?ty8⟩) trivial ?tr8
      case ty8 => (intro w hSw; go_simp; try with_reducible rfl)
      simp only [List.getElem_toArray, List.getElem_cons_succ, List.getElem_cons_zero, Act.put, List.setIfInBounds_toArray, List.set_cons_zero, List.set_cons_succ]
      refine wpAnyH_take (i := 10) (v := ?tv9) rfl (by kernel_rfl) (by kernel_rfl) (by kernel_rfl) (fun _ _ _ h => h) (Or.inl ⟨by rfl, ?ty9⟩) trivial ?tr9
      case ty9 => (intro w hSw; go_simp; try with_reducible rfl)
      simp only [List.getElem_toArray, List.getElem_cons_succ, List.getElem_cons_zero, Act.put, List.setIfInBounds_toArray, List.set_cons_zero, List.set_cons_succ]
      refine wpAnyH_take (i := 11) (v := ?tv10) rfl (by kernel_rfl) (by kernel_rfl) (by kernel_rfl) (fun _ _ _ h => h) (Or.inl ⟨by rfl, ?ty10⟩) trivial ?tr10
      case ty10 => (intro w hSw; go_simp; try with_reducible rfl)
      simp only [List.getElem_toArray, List.getElem_cons_succ, List.getElem_cons_zero, Act.put, List.setIfInBounds_toArray, List.set_cons_zero, List.set_cons_succ]
      refine wpAnyH_take (i := 12) (v := ?tv11) rfl (by kernel_rfl) (by kernel_rfl) (by kernel_rfl) (fun _ _ _ h => h) (Or.inl ⟨by rfl, ?ty11⟩) trivial ?tr11
      case ty11 => (intro w hSw; go_simp; try with_reducible rfl)
      simp only [List.getElem_toArray, List.getElem_cons_succ, List.getElem_cons_zero, Act.put, List.setIfInBounds_toArray, List.set_cons_zero, List.set_cons_succ]
      refine wpAnyH_take (i := 13) (v := ?tv12) rfl (by kernel_rfl) (by kernel_rfl) (by kernel_rfl) (fun _ _ _ h => h) (Or.inl ⟨by rfl, ?ty12⟩) trivial ?tr12
      case ty12 => (intro w hSw; go_simp; try with_reducible rfl)
      simp only [List.getElem_toArray, List.getElem_cons_succ, List.getElem_cons_zero, Act.put, List.setIfInBounds_toArray, List.set_cons_zero, List.set_cons_succ]
      refine wpAnyH_take (i := 14) (v := ?tv13) rfl (by kernel_rfl) (by kernel_rfl) (by kernel_rfl) (fun _ _ _ h => h) (Or.inl ⟨by rfl, ?ty13⟩) trivial ?tr13
      case ty13 => (intro w hSw; go_simp; try with_reducible rfl)
      simp only [List.getElem_toArray, List.getElem_cons_succ, List.getElem_cons_zero, Act.put, List.setIfInBounds_toArray, List.set_cons_zero, List.set_cons_succ]
      refine wpAnyH_take (i := 15) (v := ?tv14) rfl (by kernel_rfl) (by kernel_rfl) (by kernel_rfl) (fun _ _ _ h => h) (Or.inl ⟨by rfl, ?ty14⟩) trivial ?tr14
      case ty14 => (intro w hSw; go_simp; try with_reducible rfl)
      simp only [List.getElem_toArray, List.getElem_cons_succ, List.getElem_cons_zero, Act.put, List.setIfInBounds_toArray, List.set_cons_zero, List.set_cons_succ]
      refine wpAnyH_take (i := 16) (v := ?tv15) rfl (by kernel_rfl) (by kernel_rfl) (by kernel_rfl) (fun _ _ _ h => h) (Or.inl ⟨by rfl, ?ty15⟩) trivial ?tr15
      case ty15 => (intro w hSw; go_simp; try with_reducible rfl)
      simp only [List.getElem_toArray, List.getElem_cons_succ, List.getElem_cons_zero, Act.put, List.setIfInBounds_toArray, List.set_cons_zero, List.set_cons_succ]
      refine wpAnyH_take (i := 17) (v := ?tv16) rfl (by kernel_rfl) (by kernel_rfl) (by kernel_rfl) (fun _ _ _ h => h) (Or.inl ⟨by rfl, ?ty16⟩) trivial ?tr16
      case ty16 => (intro w hSw; go_simp; try with_reducible rfl)
      simp only [List.getElem_toArray, List.getElem_cons_succ, List.getElem_cons_zero, Act.put, List.setIfInBounds_toArray, List.set_cons_zero, List.set_cons_succ]
      refine wpAnyH_take (i := 18) (v := ?tv17) rfl (by kernel_rfl) (by kernel_rfl) (by kernel_rfl) (fun _ _ _ h => h) (Or.inl ⟨by rfl, ?ty17⟩) trivial ?tr17
      case ty17 => (intro w hSw; go_simp; try with_reducible rfl)
      simp only [List.getElem_toArray, List.getElem_cons_succ, List.getElem_cons_zero, Act.put, List.setIfInBounds_toArray, List.set_cons_zero, List.set_cons_succ]
      refine wpAnyH_take (i := 19) (v := ?tv18) rfl (by kernel_rfl) (by kernel_rfl) (by kernel_rfl) (fun _ _ _ h => h) (Or.inl ⟨by rfl, ?ty18⟩) trivial ?tr18
      case ty18 => (intro w hSw; go_simp; try with_reducible rfl)
      simp only [List.getElem_toArray, List.getElem_cons_succ, List.getElem_cons_zero, Act.put, List.setIfInBounds_toArray, List.set_cons_zero, List.set_cons_succ]
      refine wpAnyH_take (i := 20) (v := ?tv19) rfl (by kernel_rfl) (by kernel_rfl) (by kernel_rfl) (fun _ _ _ h => h) (Or.inl ⟨by rfl, ?ty19⟩) trivial ?tr19
      case ty19 => (intro w hSw; go_simp; try with_reducible rfl)
      simp only [List.getElem_toArray, List.getElem_cons_succ, List.getElem_cons_zero, Act.put, List.setIfInBounds_toArray, List.set_cons_zero, List.set_cons_succ]
      refine wpAnyH_take (i := 21) (v := ?tv20) rfl (by kernel_rfl) (by kernel_rfl) (by kernel_rfl) (fun _ _ _ h => h) (Or.inl ⟨by rfl, ?ty20⟩) trivial ?tr20
      case ty20 => (intro w hSw; go_simp; try with_reducible rfl)
      simp only [List.getElem_toArray, List.getElem_cons_succ, List.getElem_cons_zero, Act.put, List.setIfInBounds_toArray, List.set_cons_zero, List.set_cons_succ]
      refine wpAnyH_take (i := 22) (v := ?tv21) rfl (by kernel_rfl) (by kernel_rfl) (by kernel_rfl) (fun _ _ _ h => h) (Or.inl ⟨by rfl, ?ty21⟩) trivial ?tr21
      case ty21 => (intro w hSw; go_simp; try with_reducible rfl)
      simp only [List.getElem_toArray, List.getElem_cons_succ, List.getElem_cons_zero, Act.put, List.setIfInBounds_toArray, List.set_cons_zero, List.set_cons_succ]
      refine wpAnyH_take (i := 23) (v := undef) rfl (by kernel_rfl) (by kernel_rfl) (by kernel_rfl) (fun _ _ _ h => h) (Or.inr ⟨by rfl, rfl⟩) trivial ?_
      simp only [List.getElem_toArray, List.getElem_cons_succ, List.getElem_cons_zero, Act.put, List.setIfInBounds_toArray, List.set_cons_zero, List.set_cons_succ]
      refine wpAnyH_take (i := 24) (v := undef) rfl (by kernel_rfl) (by kernel_rfl) (by kernel_rfl) (fun _ _ _ h => h) (Or.inr ⟨by rfl, rfl⟩) trivial ?_
      simp only [List.getElem_toArray, List.getElem_cons_succ, List.getElem_cons_zero, Act.put, List.setIfInBounds_toArray, List.set_cons_zero, List.set_cons_succ]
      refine wpAnyH_take (i := 25) (v := undef) rfl (by kernel_rfl) (by kernel_rfl) (by kernel_rfl) (fun _ _ _ h => h) (Or.inr ⟨by rfl, rfl⟩) trivial ?_
      simp only [List.getElem_toArray, List.getElem_cons_succ, List.getElem_cons_zero, Act.put, List.setIfInBounds_toArray, List.set_cons_zero, List.set_cons_succ]
      refine wpAnyH_take (i := 26) (v := undef) rfl (by kernel_rfl) (by kernel_rfl) (by kernel_rfl) (fun _ _ _ h => h) (Or.inr ⟨by rfl, rfl⟩) trivial ?_
      simp only [List.getElem_toArray, List.getElem_cons_succ, List.getElem_cons_zero, Act.put, List.setIfInBounds_toArray, List.set_cons_zero, List.set_cons_succ]
      refine wpAnyH_take (i := 27) (v := undef) rfl (by kernel_rfl) (by kernel_rfl) (by kernel_rfl) (fun _ _ _ h => h) (Or.inr ⟨by rfl, rfl⟩) trivial ?_
      simp only [List.getElem_toArray, List.getElem_cons_succ, List.getElem_cons_zero, Act.put, List.setIfInBounds_toArray, List.set_cons_zero, List.set_cons_succ]
      refine wpAnyH_take (i := 28) (v := undef) rfl (by kernel_rfl) (by kernel_rfl) (by kernel_rfl) (fun _ _ _ h => h) (Or.inr ⟨by rfl, rfl⟩) trivial ?_
      simp only [List.getElem_toArray, List.getElem_cons_succ, List.getElem_cons_zero, Act.put, List.setIfInBounds_toArray, List.set_cons_zero, List.set_cons_succ]
      refine wpAnyH_take (i := 29) (v := undef) rfl (by kernel_rfl) (by kernel_rfl) (by kernel_rfl) (fun _ _ _ h => h) (Or.inr ⟨by rfl, rfl⟩) trivial ?_
      simp only [List.getElem_toArray, List.getElem_cons_succ, List.getElem_cons_zero, Act.put, List.setIfInBounds_toArray, List.set_cons_zero, List.set_cons_succ]
      refine wpAnyH_take (i := 30) (v := ?tv22) rfl (by kernel_rfl) (by kernel_rfl) (by kernel_rfl) (fun _ _ _ h => h) (Or.inl ⟨by rfl, ?ty22⟩) trivial ?tr22
      case ty22 => (intro w hSw; go_simp; try with_reducible rfl)
      simp only [List.getElem_toArray, List.getElem_cons_succ, List.getElem_cons_zero, Act.put, List.setIfInBounds_toArray, List.set_cons_zero, List.set_cons_succ]
      refine wpAnyH_take (i := 31) (v := ?tv23) rfl (by kernel_rfl) (by kernel_rfl) (by kernel_rfl) (fun _ _ _ h => h) (Or.inl ⟨by rfl, ?ty23⟩) trivial ?tr23
      case ty23 => (intro w hSw; go_simp; try with_reducible rfl)
      simp only [List.getElem_toArray, List.getElem_cons_succ, List.getElem_cons_zero, Act.put, List.setIfInBounds_toArray, List.set_cons_zero, List.set_cons_succ]
      refine wpAnyH_done (by kernel_rfl) ?_ _
      go_wp2_with fail
      go_meet
      exact ⟨rfl, by first | exact below_drewN dB _ | exact dB | exact dB.drew⟩
    · have i1 : (p : Int) ≤ (r : Int) := by omega
      have i2 : (r : Int) ≤ (b.size : Int) := by omega
      have HV := Lib.hid h3
      clear h3
      go_region_held (fun _ => True) (trivial) (first | (go_at_call 28; refine (specList_any al cl nl ls _ (by omega) (L5.below (Below.refl _ _).drew)).mono ?_; rw [HT.out]; rintro e wA ⟨rfl, cA⟩; have dA : Below w5.heap.size w5 wA := chain (Below.refl _ _).drew cA) | (go_at_call 29; refine (same_any a4 a5 k4 k5 n xs _ hml (A5.below dA) (W5.below dA)).mono ?_; rintro e wB ⟨rfl, cB⟩; have dB := chain dA cB) | (go_at_call 24; refine (HI.out.list a4 k4 n xs _ (by omega) (A5.below dB) (HI.out.keep _ _ HG.out (chain b5 dB))).mono ?_; rw [HV.out]; rintro e wC ⟨rfl, cC⟩; have dC := chain dB cC))
      all_goals
        go_wp2_with fail
        go_meet
        exact ⟨rfl, by first | exact below_drewN dC _ | exact dC | exact dC.drew⟩
  case rest =>
    obtain ⟨rfl, d6⟩ := hcut
    have b6 := chain b5 d6
    have L6 := L5.below d6
    clear d6 b5 L5 A5 W5 HF hlr hml hsz
    have hvz := vl_size ls
    rw [HT.out, L6.1] at hvz
    have z1 : (({ data := #[97, 98] } : ByteArray)).size = 2 := rfl
    have z2 : (({ data := #[122] } : ByteArray)).size = 1 := rfl
    have z3 : (({ data := #[97, 98] } : ByteArray) ++ T).size = 2 + T.size := by rw [ByteArray.size_append, z1]
    have z4 : ((({ data := #[97, 98] } : ByteArray) ++ T) ++ { data := #[122] }).size ≤ 1048576 := by rw [ByteArray.size_append, z3, z2]; omega
    have hnm : nl ≤ maxLen := by unfold maxLen; omega
    by_cases hok : ls.all okI = true
    · have HA := Lib.hid (ab_list ls (by rw [L6.1]; omega) hok)
      have hemp := str_full (by rw [← HT.out]; exact vl_full ls (by rw [L6.1]; omega) hok : 0 < T.size)
      rw [HT.out] at HA
      clear hok
      go_wp2_with fail
      refine (HI.out.vars _ 2 wc z4 (HI.out.keep _ _ HG.out b6)).mono ?_
      rw [HA.out]
      rintro e w7 ⟨v7, rfl, hown7, c7⟩
      have hown7' : w7.ownsRow wc.heap.size 3 1 v7 nl (ls.map (Value.int .i64)) := by rw [← L6.1]; exact hown7
      obtain ⟨a7, k7, rfl⟩ := own_slice hown7'
      have A7 := ints.At.of_own hown7'
      have L7 := L6.below c7
      have b7 := chain b6 c7
      clear hown7 hown7' c7 b6 L6 z4 z3 z2 z1
      go_wp2_with fail
      refine (same_any a7 al k7 cl nl ls w7 hnm A7 L7).mono ?_
      rintro e w8 ⟨rfl, c8⟩
      have b8 := chain b7 c8
      clear c8 b7 A7 L7
      go_wp2_with fail
      refine (HI.out.list none 0 0 [] w8 (by omega) (at_nil w8) (HI.out.keep _ _ HG.out b8)).mono ?_
      rw [vl_nil]
      rintro e w9 ⟨rfl, c9⟩
      have b9 := chain b8 c9
      clear c9 b8
      go_wp2
      go_ret
      exact ⟨rfl, b9⟩
    · have hT0 : T = { data := #[] } := by rw [← HT.out]; exact vl_empty ls hok
      subst hT0
      clear hok
      go_wp2_with fail
      refine (HI.out.vars _ 2 wc z4 (HI.out.keep _ _ HG.out b6)).mono ?_
      rintro e w7 ⟨v7, rfl, hown7, c7⟩
      have b7 := chain b6 c7
      clear hown7 c7 b6 L6 z4 z3 z2 z1
      go_wp2_with fail
      refine (HI.out.list none 0 0 [] w7 (by omega) (at_nil w7) (HI.out.keep _ _ HG.out b7)).mono ?_
      rw [vl_nil]
      rintro e w9 ⟨rfl, c9⟩
      have b9 := chain b7 c9
      clear c9 b7
      go_wp2
      go_ret
      exact ⟨rfl, b9⟩

set_option maxRecDepth 20000 in
theorem lists_big (a : Option Addr) (len cap : Nat) (w : World) (h1 : 1048576 < len) :
    Calls Try.prog 4 #[.slice a len cap] w fun e w' => e = .returned (.bool true) ∧ Below w.heap.size w w' := by
  go_enter Try.func4, Try.ntmps4
  go_wp2_with fail
  refine (big_yes a len cap w h1).mono ?_
  rintro e w' ⟨rfl, rfl⟩
  go_wp2
  go_ret
  exact ⟨rfl, Below.refl _ _⟩

end Go.Proofs.Ytkndaeoobafbhaa.num
