/-
  Lists of numbers come back from their bytes (plain facts); the contract of laws.sameInts; the draws of lists.
-/
import Derived.Test.YtkndaeoobafbhaaNumS
import Derived.Test.YtkndaeoobafbhaaNumD
import Derived.Deep.RegionHeld3
import Derived.Deep.CutRange
namespace Go.Proofs.Ytkndaeoobafbhaa.num
open Go.RowKit
open kit

/-! ### plain -/
def vcat (vs : List Nat) : List Nat := vs.flatMap (vb 4)
theorem vls_ints (s : ByteArray) (vs : List Nat) (h : ∀ v ∈ vs, v ≤ 1000000000) : vls s (intsOf vs) = s ++ txt (vcat vs) := by
  induction vs generalizing s with
  | nil =>
    show s = s ++ { data := #[] }
    exact ByteArray.append_empty.symm
  | cons v r ih =>
    show vls (s ++ vtI (v : Int)) (intsOf r) = _
    rw [ih _ (fun x hx => h x (by simp [hx])), vtI_in v (h v (by simp)), ByteArray.append_assoc]
    unfold vt
    rw [← txt_append]
    rfl
theorem ok_ints (vs : List Nat) (h : ∀ v ∈ vs, v ≤ 1000000000) : (intsOf vs).all okI = true := by
  rw [List.all_eq_true]
  intro x hx
  obtain ⟨v, hv, rfl⟩ := List.mem_map.1 hx
  have := h v hv
  unfold okI
  simp
  omega
theorem vl_ints (vs : List Nat) (h : ∀ v ∈ vs, v ≤ 1000000000) (hl : vs.length ≤ 1000000000) : vl (intsOf vs) = txt (vb 4 vs.length ++ vcat vs) := by
  unfold vl
  rw [if_pos (ok_ints vs h), vls_ints _ _ h, intsOf_length, vtI_in _ hl, txt_append]
  rfl
theorem ints_of_ok (xs : List Int) (h : xs.all okI = true) : ∃ vs : List Nat, xs = intsOf vs ∧ ∀ v ∈ vs, v ≤ 1000000000 := by
  rw [List.all_eq_true] at h
  refine ⟨xs.map Int.toNat, ?_, ?_⟩
  · unfold intsOf
    rw [List.map_map]
    conv => lhs; rw [← List.map_id xs]
    apply List.map_congr_left
    intro x hx
    have := h x hx
    unfold okI at this
    simp at this
    show x = ((x.toNat : Nat) : Int)
    omega
  · intro v hv
    obtain ⟨x, hx, rfl⟩ := List.mem_map.1 hv
    have := h x hx
    unfold okI at this
    simp at this
    omega
theorem rvk_vcat (vs : List Nat) (h : ∀ v ∈ vs, v ≤ 1000000000) (r : List Nat) : rvk vs.length (vcat vs ++ r) = some (vs, (vcat vs).length) := by
  induction vs with
  | nil => rfl
  | cons v t ih =>
    have hv := h v (by simp)
    have e : vcat (v :: t) ++ r = vb 4 v ++ (vcat t ++ r) := by
      show (vb 4 v ++ vcat t) ++ r = _
      rw [List.append_assoc]
    show (rv (vcat (v :: t) ++ r)).bind (fun p => (rvk t.length ((vcat (v :: t) ++ r).drop p.2)).map fun r => (p.1 :: r.1, p.2 + r.2)) = _
    rw [e, rv_vt v hv, Option.bind_some, List.drop_left, ih fun x hx => h x (by simp [hx])]
    show some (v :: t, _ + _) = some (v :: t, (vb 4 v ++ vcat t).length)
    rw [List.length_append]
theorem rvk_take (k : Nat) (l : List Nat) (hb : ∀ c ∈ l, c < 256) : ∀ vs m, rvk k l = some (vs, m) → vs.length = k ∧ (∀ v ∈ vs, v ≤ 1000000000) ∧ l.take m = vcat vs ∧ m ≤ l.length := by
  induction k generalizing l with
  | zero =>
    intro vs m h
    simp only [rvk, Option.some.injEq, Prod.mk.injEq] at h
    obtain ⟨rfl, rfl⟩ := h
    exact ⟨rfl, (fun v hv => by cases hv), rfl, Nat.zero_le _⟩
  | succ k ih =>
    intro vs m h
    unfold rvk at h
    cases h1 : rv l with
    | none => simp [h1] at h
    | some q =>
      rw [h1, Option.bind_some] at h
      cases h2 : rvk k (l.drop q.2) with
      | none => simp [h2] at h
      | some r2 =>
        simp only [h2, Option.map_some, Option.some.injEq, Prod.mk.injEq] at h
        obtain ⟨rfl, rfl⟩ := h
        obtain ⟨q1, q2⟩ := q
        have hs := rv_some h1
        have hl := rd_len 5 _ _ _ hs.1
        have ht := rd_take 5 4 l hb q1 q2 hs.1 hs.2.2
        obtain ⟨i1, i2, i3, i4⟩ := ih (l.drop q2) (fun c hc => hb c (List.mem_of_mem_drop hc)) r2.1 r2.2 h2
        refine ⟨by simp [i1], ?_, ?_, ?_⟩
        · intro v hv
          rcases List.mem_cons.1 hv with rfl | hv
          · exact hs.2.1
          · exact i2 v hv
        · show l.take (q2 + r2.2) = vb 4 q1 ++ vcat r2.1
          rw [List.take_add, ht, i3]
        · rw [List.length_drop] at i4
          show q2 + r2.2 ≤ _
          omega
/-- what is read is what would be written -/
theorem vl_rvs (b : ByteArray) (a : Int) : (rvs b a).2.2 = false ∨ ∃ p q : Nat, a = p ∧ rvs b a = ((rvs b a).1, (q : Int), true) ∧ p ≤ q ∧ q ≤ b.size ∧ vl (rvs b a).1 = b.extract p q := by
  rcases rvAt_cases b a with ⟨_, h, _⟩ | ⟨p, n, m, rfl, hr, _, _, _⟩
  · left; rw [h]
  · by_cases hm : 1000 < n
    · left; rw [rvs_many b p n m hr hm]
    · cases h : rvk n (nats b (p + m)) with
      | none => left; rw [rvs_fail b p n m hr (by omega) h]
      | some r =>
        right
        have hs := rv_some hr
        have hl := rd_len 5 _ _ _ hs.1
        have ht := rd_take 5 4 _ (nats_byte b p) n m hs.1 hs.2.2
        obtain ⟨i1, i2, i3, i4⟩ := rvk_take n _ (nats_byte b (p + m)) r.1 r.2 h
        rw [nats_length] at hl i4
        refine ⟨p, p + m + r.2, rfl, by rw [rvs_some b p n m r.2 r.1 hr (by omega) h], by omega, by omega, ?_⟩
        rw [rvs_some b p n m r.2 r.1 hr (by omega) h]
        show vl (intsOf r.1) = _
        rw [vl_ints r.1 i2 (by omega), i1, Nat.add_assoc, txt_nats, List.take_add, ht, nats_drop, i3]
/-- what is written is read -/
theorem rvs_vl (xs : List Int) (hl : xs.length ≤ 1000) (h : xs.all okI = true) (s r : ByteArray) : rvs (s ++ (vl xs ++ r)) (s.size : Int) = (xs, ((s.size + (vl xs).size : Nat) : Int), true) := by
  obtain ⟨vs, rfl, hv⟩ := ints_of_ok xs h
  rw [intsOf_length] at hl
  have e : nats (s ++ (vl (intsOf vs) ++ r)) s.size = vb 4 vs.length ++ (vcat vs ++ nats r 0) := by
    rw [nats_append s _ s.size (Nat.le_refl _), nats_over s s.size (Nat.le_refl _), List.nil_append, nats_append _ _ 0 (Nat.zero_le _), vl_ints vs hv (by omega), nats_txt, List.append_assoc]
    intro c hc
    rcases List.mem_append.1 hc with hc | hc
    · exact vb_byte 4 _ (lt128 (by omega)) c hc
    · obtain ⟨v, hv2, hc⟩ := List.mem_flatMap.1 hc
      exact vb_byte 4 v (lt128 (hv v hv2)) c hc
  have hr := rv_vt vs.length (by omega) (vcat vs ++ nats r 0)
  rw [← e] at hr
  have hk : rvk vs.length (nats (s ++ (vl (intsOf vs) ++ r)) (s.size + (vb 4 vs.length).length)) = some (vs, (vcat vs).length) := by
    rw [← nats_drop, e, List.drop_left]
    exact rvk_vcat vs hv _
  rw [rvs_some _ s.size vs.length (vb 4 vs.length).length (vcat vs).length vs hr hl hk, vl_ints vs hv (by omega), txt_size, List.length_append, Nat.add_assoc]
theorem vl_empty (xs : List Int) (h : ¬ xs.all okI = true) : vl xs = { data := #[] } := if_neg h
theorem vls_ge (s : ByteArray) (xs : List Int) : s.size ≤ (vls s xs).size := by
  induction xs generalizing s with
  | nil => exact Nat.le_refl _
  | cons x r ih =>
    have h := ih (s ++ vtI x)
    rw [ByteArray.size_append] at h
    show _ ≤ (vls (s ++ vtI x) r).size
    omega
theorem vl_full (xs : List Int) (hl : xs.length ≤ 1000) (h : xs.all okI = true) : 0 < (vl xs).size := by
  unfold vl
  rw [if_pos h]
  have h1 := vls_ge (vtI (xs.length : Int)) xs
  have h2 := vtI_pos (xs.length : Int) (by unfold okI; simp; omega)
  omega
theorem vl_size (xs : List Int) : (vl xs).size ≤ 5 + 5 * xs.length := by
  unfold vl
  split
  · have h1 := vls_size (vtI (xs.length : Int)) xs
    have h2 := vtI_size (xs.length : Int)
    omega
  · exact Nat.zero_le _
theorem vl_nil : vl [] = { data := #[0] } := by decide +kernel

set_option maxHeartbeats 400000 in
theorem same_any (a b : Option Addr) (c d n : Nat) (xs : List Int) (w : World) (hm : n ≤ maxLen) (ha : ints.At w a n xs) (hb : ints.At w b n xs) :
    Calls Try.prog 29 #[.slice a n c, .slice b n d] w fun e w' => e = .returned (.bool true) ∧ Below w.heap.size w w' := by
  unfold maxLen at hm
  have HL := Lib.hid ha.1
  have HA := Lib.hid ha
  have HB := Lib.hid hb
  clear ha hb
  go_enter Try.func29, Try.ntmps29
  go_wp2
  go_loopw [5] (fun i wr => ∃ k : Nat, k ≤ n ∧ i = .int .i64 k ∧ Below w.heap.size w wr) (fun i _ => n - (intOf i).toNat)
  case atStart => exact ⟨0, Nat.zero_le _, rfl, Below.refl _ _⟩
  case round =>
    obtain ⟨k, hk, rfl, hb⟩ := hrel
    by_cases hlt : k < n
    · obtain ⟨x, hxk⟩ : ∃ x, xs[k]? = some x := ⟨_, List.getElem?_eq_getElem (by rw [HL.out]; exact hlt)⟩
      obtain ⟨g, o, rfl, hg, hx⟩ := HA.out.2.resolve_left (by omega)
      obtain ⟨h, p, rfl, hh, hy⟩ := HB.out.2.resolve_left (by omega)
      have c1 : wr.cell? ⟨g, o + k, none⟩ = some (.int .i64 x) := (hb.cell (p := ⟨g, o + k, none⟩) hg).trans (hx k x hxk)
      have c2 : wr.cell? ⟨h, p + k, none⟩ = some (.int .i64 x) := (hb.cell (p := ⟨h, p + k, none⟩) hh).trans (hy k x hxk)
      clear hxk hx hy HA HB
      have i0 : (0 : Int) ≤ (k : Int) := by omega
      have i1 : (k : Int) < (n : Int) := by omega
      go_wp2
      go_quiet (fail)
      go_wp2
      go_roundw
      case rel => exact ⟨k + 1, by omega, by go_num, below_drewN hb _⟩
      case measure => simp [intOf]; omega
    · go_wp2
      go_ret
      exact ⟨rfl, hb⟩

end Go.Proofs.Ytkndaeoobafbhaa.num
