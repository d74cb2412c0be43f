/-
  What is asked of impl's numbers in bytes; the walks of the exact laws of lists, given that.
-/
import Derived.Test.YtkndaeoobafbhaaNumE
namespace Go.Proofs.Ytkndaeoobafbhaa.num
open Go.RowKit
open kit

/-- what impl answers, in worlds where G holds -/
structure Impl (G : World → Prop) : Prop where
  keep : ∀ w w', G w → Below w.heap.size w w' → G w'
  text : ∀ (n : Int) (w : World), G w → Calls Try.prog 16 #[.int .i64 n] w (PostT (vtI n) w)
  read : ∀ (b : ByteArray) (a : Int) (w : World), b.size ≤ 1048576 → G w → Calls Try.prog 14 #[.string b, .int .i64 a] w (PostR (rvAt b a) w)
  fix : ∀ (n k : Int) (w : World), G w → Calls Try.prog 18 #[.int .i64 n, .int .i64 k] w (PostT (fxI n k) w)
  rfix : ∀ (b : ByteArray) (a k : Int) (w : World), b.size ≤ 1048576 → G w → Calls Try.prog 19 #[.string b, .int .i64 a, .int .i64 k] w (PostR (rfAt b a k) w)
  size : ∀ (n : Int) (w : World), G w → Calls Try.prog 22 #[.int .i64 n] w (PostR (.int .i64 (((vtI n).size : Nat) : Int)) w)
  list : ∀ (a : Option Addr) (c n : Nat) (xs : List Int) (w : World), n ≤ 1048576 → ints.At w a n xs → G w → Calls Try.prog 24 #[.slice a n c] w (PostT (vl xs) w)
  vars : ∀ (b : ByteArray) (a : Int) (w : World), b.size ≤ 1048576 → G w → Calls Try.prog 26 #[.string b, .int .i64 a] w (PostL (rvs b a) w)

/-! ### the exact law of ReadVars -/
theorem len_rvs (b : ByteArray) (a : Int) : (rvs b a).1.length ≤ 1000 := by
  have h0 : (([], 0, false) : List Int × Int × Bool).1.length ≤ 1000 := Nat.zero_le _
  rcases rvAt_cases b a with ⟨_, h, _⟩ | ⟨p, n, m, rfl, hr, _, _, _⟩
  · rw [h]; exact h0
  · by_cases hm : 1000 < n
    · rw [rvs_many b p n m hr hm]; exact h0
    · cases h : rvk n (nats b (p + m)) with
      | none => rw [rvs_fail b p n m hr (by omega) h]; exact h0
      | some r =>
        rw [rvs_some b p n m r.2 r.1 hr (by omega) h]
        have : ∀ (k : Nat) (l : List Nat) (r : List Nat × Nat), rvk k l = some r → r.1.length = k := by
          intro k
          induction k with
          | zero => intro l r h; simp [rvk] at h; rw [← h]; rfl
          | succ k ih =>
            intro l r h
            unfold rvk at h
            cases h1 : rv l with
            | none => simp [h1] at h
            | some q =>
              rw [h1, Option.bind_some] at h
              cases h2 : rvk k (l.drop q.2) with
              | none => simp [h2] at h
              | some r2 =>
                simp only [h2, Option.map_some, Option.some.injEq] at h
                rw [← h]
                simp [ih _ _ h2]
        show (intsOf r.1).length ≤ 1000
        rw [intsOf_length, this _ _ _ h]
        omega
theorem own_slice {w : World} {B : Nat} {e : TypeId} {v : Value} {n : Nat} {xs : List Value} (h : w.ownsRow B e 1 v n xs) : ∃ a c, v = .slice a n c := by
  obtain ⟨a, c, h1, _⟩ := own_form h
  exact ⟨a, c, h1⟩

set_option maxHeartbeats 1000000 in
theorem exactVars_any (G : World → Prop) (I : Impl G) (b : ByteArray) (a : Int) (w : World) (hm : b.size ≤ 1048576) (hG : G w) :
    Calls Try.prog 11 #[.string b, .int .i64 a] w fun e w' => e = .returned (.bool true) ∧ Below w.heap.size w w' := by
  have HG := Lib.hid hG
  have HI := Lib.hid I
  have hlen := len_rvs b a
  clear hG I
  go_enter Try.func11, Try.ntmps11
  go_wp2_with fail
  refine (specVars_any b a w hm).mono ?_
  rintro e w1 ⟨v, rfl, hown1, b1⟩
  go_wp2_with fail
  refine (HI.out.vars b a w1 hm (HI.out.keep _ _ HG.out b1)).mono ?_
  rintro e w2 ⟨u, rfl, hown2, d2⟩
  obtain ⟨xs, hxs⟩ : ∃ xs, (rvs b a).1 = xs := ⟨_, rfl⟩
  obtain ⟨q, hq⟩ : ∃ q, (rvs b a).2.1 = q := ⟨_, rfl⟩
  obtain ⟨o, ho⟩ : ∃ o, (rvs b a).2.2 = o := ⟨_, rfl⟩
  have HX := Lib.hid hxs
  have HQ := Lib.hid hq
  have HO := Lib.hid ho
  rw [hxs] at hlen hown2 hown1
  rw [hq, ho]
  obtain ⟨n, hn⟩ : ∃ n, xs.length = n := ⟨_, rfl⟩
  have HN := Lib.hid hn
  rw [hn] at hlen hown2 hown1
  obtain ⟨a1, k1, rfl⟩ := own_slice hown1
  obtain ⟨a2, k2, rfl⟩ := own_slice hown2
  have A1 := Lib.hid (ints.At.of_own hown1)
  have A2 := ints.At.of_own hown2
  have O2 := Lib.hid hown2
  clear hown1 hxs hq ho hn hown2
  have hml : n ≤ maxLen := by unfold maxLen; omega
  go_wp2_with fail
  refine (ints.eq_any a2 a1 k2 k1 n xs w2 hml A2 (A1.out.below d2)).mono ?_
  rintro e w3 ⟨rfl, c3⟩
  have d3 := chain d2 c3
  have O3 := Lib.hid (own_below O2.out c3)
  clear A2 O2 d2 c3
  go_wp2_with fail
  refine (ints.mark_any (k := 1) w3 (by omega) O3.out).mono ?_
  rintro e w4 ⟨rfl, hown4, g4⟩
  have d4 : Below w1.heap.size w1 w4 := d3.grown g4 d3.size (fun k hk => (O3.out.lt k hk).1)
  have O4 := Lib.hid hown4
  clear O3 hown4 g4 d3
  go_wp2_with fail
  refine (ints.held_any a2 k2 n 1 w4 (by omega) (ints.At.of_own O4.out)).mono ?_
  rintro e w5 ⟨rfl, c5⟩
  have d5 := chain d4 c5
  have O5 := Lib.hid (own_below O4.out c5)
  clear O4 c5 d4
  go_wp2_with fail
  refine (HI.out.vars b a w5 hm (HI.out.keep _ _ HG.out (chain b1 d5))).mono ?_
  rintro e w6 ⟨u2, rfl, hown6, c6⟩
  rw [HX.out, HN.out] at hown6
  rw [HQ.out, HO.out]
  obtain ⟨a3, k3, rfl⟩ := own_slice hown6
  have A6 := ints.At.of_own hown6
  have d6 := chain d5 c6
  have O6 := Lib.hid (own_below O5.out c6)
  clear hown6 O5 c6 d5
  go_wp2_with fail
  refine (ints.eq_any a3 a1 k3 k1 n xs w6 hml A6 (A1.out.below d6)).mono ?_
  rintro e w7 ⟨rfl, c7⟩
  have d7 := chain d6 c7
  have O7 := Lib.hid (own_below O6.out c7)
  clear A6 O6 c7 d6
  go_wp2_with fail
  refine (ints.held_any a2 k2 n 1 w7 (by omega) (ints.At.of_own O7.out)).mono ?_
  rintro e w8 ⟨rfl, c8⟩
  have d8 := chain d7 c8
  clear O7 c8 d7
  go_wp2
  go_ret
  exact ⟨rfl, chain b1 d8⟩

/-! ### the exact law of VarList -/
set_option maxHeartbeats 1000000 in
theorem exactList_any (G : World → Prop) (I : Impl G) (a : Option Addr) (c n : Nat) (xs : List Int) (w : World) (hm : n ≤ 1048576) (ha : ints.At w a n xs) (hG : G w) :
    Calls Try.prog 10 #[.slice a n c] w fun e w' => e = .returned (.bool true) ∧ Below w.heap.size w w' := by
  have HG := Lib.hid hG
  have HI := Lib.hid I
  have HA := Lib.hid ha
  clear hG I ha
  have hml : n ≤ maxLen := by unfold maxLen; omega
  go_enter Try.func10, Try.ntmps10
  go_wp2_with fail
  refine (ints.to_any a c n xs w hm HA.out).mono ?_
  rintro e w1 ⟨rfl, hown1, b1⟩
  have A1 := Lib.hid (ints.At.of_own hown1)
  clear hown1
  go_wp2_with fail
  refine (specList_any _ n n xs w1 hm A1.out).mono ?_
  rintro e w2 ⟨rfl, c2⟩
  have b2 := chain b1 c2
  clear A1 c2 b1
  go_wp2_with fail
  refine (ints.to_any a c n xs w2 hm (HA.out.below b2)).mono ?_
  rintro e w3 ⟨rfl, hown3, c3⟩
  have b3 := chain b2 c3
  have A3 := Lib.hid (ints.At.of_own hown3)
  clear hown3 c3 b2
  go_wp2_with fail
  refine (HI.out.list _ n n xs w3 hm A3.out (HI.out.keep _ _ HG.out b3)).mono ?_
  rintro e w4 ⟨rfl, c4⟩
  have b4 := chain b3 c4
  have A4 := Lib.hid (A3.out.below c4)
  clear A3 c4 b3
  go_wp2_with fail
  refine (ints.to_any a c n xs w4 hm (HA.out.below b4)).mono ?_
  rintro e w5 ⟨rfl, hown5, c5⟩
  have b5 := chain b4 c5
  have A5 := Lib.hid (A4.out.below c5)
  have A6 := Lib.hid (ints.At.of_own hown5)
  clear hown5 c5 b4 A4
  go_wp2_with fail
  refine (ints.eq_any _ _ n n n xs w5 hml A5.out A6.out).mono ?_
  rintro e w6 ⟨rfl, c6⟩
  have b6 := chain b5 c6
  clear c6 b5 A5 A6
  go_wp2
  go_ret
  exact ⟨rfl, b6⟩

end Go.Proofs.Ytkndaeoobafbhaa.num
