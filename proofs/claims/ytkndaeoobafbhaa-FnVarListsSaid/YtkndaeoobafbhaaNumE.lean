/-
  Lists of numbers in bytes: plain facts, and the contracts of spec.VarList and spec.ReadVars.
-/
import Derived.Test.YtkndaeoobafbhaaNumC
import Derived.Test.YtkndaeoobafbhaaInts
import Derived.Test.YtkndaeoobafbhaaBig
namespace Go.Proofs.Ytkndaeoobafbhaa.num
open Go.RowKit
open kit

/-! ### written -/
def okI (x : Int) : Bool := decide (0 ≤ x ∧ x ≤ 1000000000)
def vls (s : ByteArray) (xs : List Int) : ByteArray := xs.foldl (fun s x => s ++ vtI x) s
def vl (xs : List Int) : ByteArray := if xs.all okI = true then vls (vtI (xs.length : Int)) xs else { data := #[] }
theorem vl_no (xs : List Int) (i : Nat) (x : Int) (hx : xs[i]? = some x) (h : okI x = false) : vl xs = { data := #[] } := by
  unfold vl
  rw [if_neg]
  intro e
  rw [List.all_eq_true] at e
  have := e x (List.mem_of_getElem? hx)
  rw [h] at this
  cases this
theorem vls_snoc (s : ByteArray) (xs : List Int) (i : Nat) (x : Int) (hx : xs[i]? = some x) : vls s (xs.take (i + 1)) = vls s (xs.take i) ++ vtI x := by
  unfold vls
  rw [List.take_add_one, hx, List.foldl_append]
  rfl
theorem vls_size (s : ByteArray) (xs : List Int) : (vls s xs).size ≤ s.size + 5 * xs.length := by
  induction xs generalizing s with
  | nil => exact Nat.le_refl _
  | cons x r ih =>
    have h := ih (s ++ vtI x)
    have h5 := vtI_size x
    rw [ByteArray.size_append] at h
    show (vls (s ++ vtI x) r).size ≤ _
    rw [List.length_cons]
    omega
theorem all_snoc (xs : List Int) (i : Nat) (x : Int) (hx : xs[i]? = some x) (h : (xs.take i).all okI = true) (ho : okI x = true) : (xs.take (i + 1)).all okI = true := by
  rw [List.take_add_one, hx, List.all_append, h]
  simp [ho]
theorem vtI_empty (x : Int) (h : okI x = false) : vtI x = { data := #[] } := vtI_out x (by unfold okI at h; simpa using h)
theorem vtI_pos (x : Int) (h : okI x = true) : 0 < (vtI x).size := by
  have h2 : 0 ≤ x ∧ x ≤ 1000000000 := by unfold okI at h; simpa using h
  unfold vtI
  rw [if_pos h2, vt_size]
  exact vb_length_pos 4 _

set_option maxHeartbeats 400000 in
theorem specList_any (a : Option Addr) (c n : Nat) (xs : List Int) (w : World) (hm : n ≤ 1048576) (ha : ints.At w a n xs) :
    Calls Try.prog 28 #[.slice a n c] w (PostT (vl xs) w) := by
  have HL := Lib.hid ha.1
  have HA := Lib.hid ha
  clear ha
  go_enter Try.func28, Try.ntmps28
  go_wp2_with fail
  refine (specVar_any n w).mono ?_
  rintro e w1 ⟨rfl, b1⟩
  have h5 := vtI_size n
  obtain ⟨S, hS⟩ : ∃ S, vtI (n : Int) = S := ⟨_, rfl⟩
  rw [hS] at h5
  have HS := Lib.hid hS
  rw [hS]
  clear hS
  go_wp2_with fail
  go_loopw [3, 4] (fun s i wr => ∃ (k : Nat) (T : ByteArray), k ≤ n ∧ i = .int .i64 k ∧ s = .string T ∧ T.size ≤ 5 + 5 * k ∧ vls S (xs.take k) = T ∧ (xs.take k).all okI = true ∧ Below w.heap.size w wr) (fun _ i _ => n - (intOf i).toNat)
  case atStart => exact ⟨0, S, Nat.zero_le _, rfl, rfl, by omega, rfl, rfl, b1⟩
  case round =>
    obtain ⟨k, T, hk, rfl, rfl, hT, hv, hall, hb⟩ := hrel
    have HV := Lib.hid hv
    have HO := Lib.hid hall
    clear hv hall b1
    by_cases hlt : k < n
    · obtain ⟨x, hxk⟩ : ∃ x, xs[k]? = some x := ⟨_, List.getElem?_eq_getElem (by rw [HL.out]; exact hlt)⟩
      obtain ⟨g, o, rfl, hg, hx⟩ := HA.out.2.resolve_left (by omega)
      have c1 : wr.cell? ⟨g, o + k, none⟩ = some (.int .i64 x) := (hb.cell (p := ⟨g, o + k, none⟩) hg).trans (hx k x hxk)
      have HX := Lib.hid hxk
      have i0 : (0 : Int) ≤ (k : Int) := by omega
      have i1 : (k : Int) < (n : Int) := by omega
      clear hx hxk
      by_cases ho : okI x = true
      · have hemp := str_full (vtI_pos x ho)
        have hxs := vtI_size x
        have HOK := Lib.hid ho
        clear ho
        obtain ⟨U, hU⟩ : ∃ U, vtI x = U := ⟨_, rfl⟩
        rw [hU] at hemp hxs
        have HU := Lib.hid hU
        clear hU
        go_wp2_with (go_at_call 30; refine (specVar_any _ _).mono ?_; rw [HU.out]; rintro e w2 ⟨rfl, hb2⟩)
        go_roundw
        case rel => exact ⟨k + 1, T ++ U, by omega, by go_num, rfl, by rw [ByteArray.size_append]; omega, by rw [vls_snoc _ _ _ _ HX.out, HV.out, HU.out], all_snoc _ _ _ HX.out HO.out HOK.out, chain hb hb2⟩
        case measure => simp [intOf]; omega
      · have HE := Lib.hid (vl_no xs k x HX.out (by simpa using ho))
        have HU := Lib.hid (vtI_empty x (by simpa using ho))
        clear ho
        go_wp2_with (go_at_call 30; refine (specVar_any _ _).mono ?_; rw [HU.out]; rintro e w2 ⟨rfl, hb2⟩)
        go_ret
        exact ⟨by rw [HE.out]; rfl, chain hb hb2⟩
    · obtain rfl : k = n := by omega
      have htake : xs.take k = xs := List.take_of_length_le (by rw [HL.out]; exact Nat.le_refl _)
      have HE := Lib.hid (show vl xs = T by
        unfold vl
        rw [if_pos (by rw [← htake]; exact HO.out), HL.out, HS.out, ← HV.out, htake])
      clear htake
      go_wp2
      go_ret
      exact ⟨by rw [HE.out]; rfl, hb⟩

/-! ### read -/
theorem nats_drop (b : ByteArray) (p m : Nat) : (nats b p).drop m = nats b (p + m) := by
  unfold nats
  rw [← List.map_drop, List.drop_drop]
def rvk : Nat → List Nat → Option (List Nat × Nat)
  | 0, _ => some ([], 0)
  | k + 1, l => (rv l).bind fun p => (rvk k (l.drop p.2)).map fun r => (p.1 :: r.1, p.2 + r.2)
theorem rvk_no (k : Nat) (l : List Nat) (h : rv l = none) : rvk (k + 1) l = none := by simp [rvk, h]
theorem rvk_yes (k : Nat) (b : ByteArray) (p v m : Nat) (h : rv (nats b p) = some (v, m)) : rvk (k + 1) (nats b p) = (rvk k (nats b (p + m))).map fun r => (v :: r.1, m + r.2) := by
  simp [rvk, h, nats_drop]
/-- i numbers are read: vs, and the place is p -/
def GoneK (b : ByteArray) (p0 n i : Nat) (vs : List Nat) (p : Nat) : Prop := vs.length = i ∧ p0 ≤ p ∧ p ≤ b.size ∧ rvk n (nats b p0) = (rvk (n - i) (nats b p)).map fun r => (vs ++ r.1, (p - p0) + r.2)
theorem goneK_zero (b : ByteArray) (p0 n : Nat) (h : p0 ≤ b.size) : GoneK b p0 n 0 [] p0 := by
  refine ⟨rfl, Nat.le_refl _, h, ?_⟩
  rw [Nat.sub_zero, Nat.sub_self]
  cases rvk n (nats b p0) <;> simp
theorem goneK_next {b : ByteArray} {p0 n i p v m : Nat} {vs : List Nat} (h : GoneK b p0 n i vs p) (hi : i < n) (hr : rv (nats b p) = some (v, m)) (hm : p + m ≤ b.size) : GoneK b p0 n (i + 1) (vs ++ [v]) (p + m) := by
  obtain ⟨h1, h2, h3, h4⟩ := h
  refine ⟨by simp [h1], by omega, hm, ?_⟩
  rw [h4, show n - i = (n - (i + 1)) + 1 by omega, rvk_yes _ _ _ _ _ hr]
  cases rvk (n - (i + 1)) (nats b (p + m)) with
  | none => rfl
  | some r =>
    simp only [Option.map_some, Option.some.injEq, Prod.mk.injEq, List.append_assoc, List.cons_append, List.nil_append, true_and]
    omega
theorem goneK_fail {b : ByteArray} {p0 n i p : Nat} {vs : List Nat} (h : GoneK b p0 n i vs p) (hi : i < n) (hr : rv (nats b p) = none) : rvk n (nats b p0) = none := by
  rw [h.2.2.2, show n - i = (n - (i + 1)) + 1 by omega, rvk_no _ _ hr]
  rfl
theorem goneK_end {b : ByteArray} {p0 n p : Nat} {vs : List Nat} (h : GoneK b p0 n n vs p) : rvk n (nats b p0) = some (vs, p - p0) := by
  rw [h.2.2.2, Nat.sub_self]
  simp [rvk]

def intsOf (l : List Nat) : List Int := l.map fun (v : Nat) => (v : Int)
/-- the list, the place behind it, and whether there is one -/
def rvs (b : ByteArray) (a : Int) : List Int × Int × Bool := if 0 ≤ a then
    match rv (nats b a.toNat) with
    | some p => if p.1 ≤ 1000 then
        match rvk p.1 (nats b (a.toNat + p.2)) with
        | some r => (intsOf r.1, ((a.toNat + p.2 + r.2 : Nat) : Int), true)
        | none => ([], 0, false)
      else ([], 0, false)
    | none => ([], 0, false)
  else ([], 0, false)
theorem rvs_neg (b : ByteArray) (a : Int) (h : a < 0) : rvs b a = ([], 0, false) := if_neg (by omega)
theorem rvs_none (b : ByteArray) (a : Nat) (h : rv (nats b a) = none) : rvs b a = ([], 0, false) := by
  unfold rvs
  rw [if_pos (by omega), Int.toNat_natCast, h]
theorem rvs_many (b : ByteArray) (a n m : Nat) (h : rv (nats b a) = some (n, m)) (h2 : 1000 < n) : rvs b a = ([], 0, false) := by
  unfold rvs
  rw [if_pos (by omega), Int.toNat_natCast, h]
  exact if_neg (by simp; omega)
theorem rvs_fail (b : ByteArray) (a n m : Nat) (h : rv (nats b a) = some (n, m)) (h2 : n ≤ 1000) (h3 : rvk n (nats b (a + m)) = none) : rvs b a = ([], 0, false) := by
  unfold rvs
  rw [if_pos (by omega), Int.toNat_natCast, h]
  show (if n ≤ 1000 then _ else _) = _
  rw [if_pos h2]
  show (match rvk n (nats b (a + m)) with | some r => _ | none => _) = _
  rw [h3]
theorem rvs_some (b : ByteArray) (a n m k : Nat) (vs : List Nat) (h : rv (nats b a) = some (n, m)) (h2 : n ≤ 1000) (h3 : rvk n (nats b (a + m)) = some (vs, k)) : rvs b a = (intsOf vs, ((a + m + k : Nat) : Int), true) := by
  unfold rvs
  rw [if_pos (by omega), Int.toNat_natCast, h]
  show (if n ≤ 1000 then _ else _) = _
  rw [if_pos h2]
  show (match rvk n (nats b (a + m)) with | some r => _ | none => _) = _
  rw [h3]
/-- one reading -/
theorem rvAt_cases (b : ByteArray) (a : Int) : (rvAt b a = no2 ∧ rvs b a = ([], 0, false) ∧ (∀ p : Nat, a = p → rv (nats b p) = none)) ∨
    ∃ p v m : Nat, a = p ∧ rv (nats b p) = some (v, m) ∧ rvAt b a = .tuple #[.int .i64 (v : Int), .int .i64 ((p + m : Nat) : Int), .bool true] ∧ p + m ≤ b.size ∧ v ≤ 1000000000 := by
  by_cases h0 : a < 0
  · exact .inl ⟨rvAt_neg b a h0, rvs_neg b a h0, fun p hp => by omega⟩
  · obtain ⟨n, rfl⟩ := Int.eq_ofNat_of_zero_le (show 0 ≤ a by omega)
    cases h : rv (nats b n) with
    | none => exact .inl ⟨rvAt_none b n h, rvs_none b n h, fun p hp => by rw [← Int.natCast_inj.1 hp]; exact h⟩
    | some p =>
      obtain ⟨v, m⟩ := p
      have hs := rv_some h
      have hl := rd_len 5 _ _ _ hs.1
      rw [nats_length] at hl
      exact .inr ⟨n, v, m, rfl, h, rvAt_some b n v m h, by omega, hs.2.1⟩
theorem intsOf_snoc (l : List Nat) (v : Nat) : intsOf (l ++ [v]) = intsOf l ++ [(v : Int)] := by simp [intsOf]
theorem intsOf_length (l : List Nat) : (intsOf l).length = l.length := by simp [intsOf]

/-- a list of its own, a place and whether there is one; nothing of what was there turns -/
def PostL (r : List Int × Int × Bool) (w : World) (e : Ending) (w' : World) : Prop :=
  ∃ v : Value, e = .returned (.tuple #[v, .int .i64 r.2.1, .bool r.2.2]) ∧ w'.ownsRow w.heap.size 3 1 v r.1.length (r.1.map (Value.int .i64)) ∧ Below w.heap.size w w'

set_option maxHeartbeats 1000000 in
theorem specVars_any (b : ByteArray) (a : Int) (w : World) (hm : b.size ≤ 1048576) :
    Calls Try.prog 27 #[.string b, .int .i64 a] w (PostL (rvs b a) w) := by
  obtain ⟨i0, hi, hz0, hz1, hz2⟩ := info_parts ints.Try.infoInt
  go_enter Try.func27, Try.ntmps27
  go_wp2_with fail
  refine (specRead_any b a _ hm).mono ?_
  rintro e w1 ⟨rfl, c1⟩
  have b1 : Below w.heap.size w w1 := ((Below.refl _ _).alloc (Nat.le_refl _) _).trans (c1.mono (by simp))
  have hown0 : w1.ownsRow w.heap.size 3 1 (.slice (some ⟨w.heap.size, 0, none⟩) 0 0) 0 (([] : List Int).map (Value.int .i64)) := own_below (World.ownsRow_made _ _ _ (Nat.le_refl _) (by decide) rfl) c1
  have hs1 : w.heap.size < w1.heap.size := by have := c1.size; simp at this; omega
  clear c1
  rcases rvAt_cases b a with ⟨h, hE, _⟩ | ⟨p, n, m, rfl, hr, h, hpm, hn⟩
  · have HE := Lib.hid hE
    rw [h]
    unfold no2
    clear h hE
    go_wp2
    go_ret3
    exact ⟨_, by rw [HE.out]; rfl, by rw [HE.out]; exact hown0, b1⟩
  · rw [h]
    have HR := Lib.hid hr
    clear h hr
    by_cases hmany : 1000 < n
    · have HE := Lib.hid (rvs_many b p n m HR.out hmany)
      go_wp2
      go_ret3
      exact ⟨_, by rw [HE.out]; rfl, by rw [HE.out]; exact hown0, b1⟩
    · have HN := Lib.hid (fun h3 => rvs_fail b p n m HR.out (by omega) h3)
      have HS := Lib.hid (fun vs k h3 => rvs_some b p n m k vs HR.out (by omega) h3)
      have HO := Lib.hid hown0
      obtain ⟨p1, hp1⟩ : ∃ p1, p + m = p1 := ⟨_, rfl⟩
      rw [hp1] at HN HS hpm
      have hpc : ((p + m : Nat) : Int) = (p1 : Int) := by omega
      rw [hpc]
      have HP := Lib.hid hp1
      clear hown0 hp1 hpc HR
      go_wp2
      go_loopw [9, 11, 12] (fun nx o i wr => ∃ (k q : Nat) (vs : List Nat), k ≤ n ∧ i = .int .i64 k ∧ nx = .int .i64 q ∧ GoneK b p1 n k vs q ∧ wr.ownsRow w1.heap.size 3 1 o k ((intsOf vs).map (Value.int .i64)) ∧ Below w1.heap.size w1 wr) (fun _ _ i _ => n - (intOf i).toNat)
      case atStart => exact ⟨0, p1, [], Nat.zero_le _, rfl, rfl, goneK_zero b p1 n hpm, World.ownsRow_made _ _ _ (Nat.le_refl _) (by decide) rfl, (Below.refl _ _).alloc (Nat.le_refl _) _⟩
      case round =>
        obtain ⟨k, q, vs, hk, rfl, rfl, hg, hown, hb⟩ := hrel
        have HG := Lib.hid hg
        clear hg
        by_cases hlt : k < n
        · rcases rvAt_cases b (q : Int) with ⟨h, _, h2⟩ | ⟨p', v, m', hpp, hr, h, hpm', hv⟩
          · have HE := Lib.hid (HN.out (goneK_fail HG.out hlt (h2 q rfl)))
            have H := Lib.hid h
            clear h h2
            go_wp2_with (go_at_call 15; refine (specRead_any _ _ _ hm).mono ?_; rw [H.out]; unfold no2; rintro e w2 ⟨rfl, c2⟩)
            go_ret3
            exact ⟨_, by rw [HE.out]; rfl, by rw [HE.out]; exact own_below (own_below HO.out hb) c2, b1.trans ((chain hb c2).mono (by omega))⟩
          · obtain rfl : q = p' := by omega
            have HG2 := Lib.hid (goneK_next HG.out hlt hr hpm')
            have H := Lib.hid h
            clear h hr hpp
            go_wp2_with (first | (go_at_call 15; refine (specRead_any _ _ _ hm).mono ?_; rw [H.out]; rintro e w2 ⟨rfl, c2⟩; have hown2 := own_below hown c2; have hb2 := chain hb c2) | (at_builtin; refine list_app (by rfl) (.tmp 45) (.tmp 47) 29 (by rfl) w1 w2 3 i0 (.int .i64 0) 8 Try.underlying29 hi hz0 hz1 hz2 (by rfl) _ k _ hown2 hb2 [.int .i64 (v : Int)] 1 ?_ ?_ ?_ ?_ (by rfl) (by rfl) (by rfl) ?_ ?_; rfl; simp [Value.oneCell']; unfold maxLen; omega; omega; exact ⟨rfl, rfl, rfl⟩; intro v' w' hown' hb'))
            go_roundw
            case rel => exact ⟨k + 1, q + m', vs ++ [v], by omega, by go_num, by go_num, HG2.out, by rw [intsOf_snoc]; simpa using hown', hb'⟩
            case measure => simp [intOf]; omega
        · obtain rfl : k = n := by omega
          have HE := Lib.hid (HS.out vs _ (goneK_end HG.out))
          have HQ := Lib.hid (show ((p1 + (q - p1) : Nat) : Int) = (q : Int) by have := HG.out.2.1; omega)
          have HL := Lib.hid (show (intsOf vs).length = k by rw [intsOf_length]; exact HG.out.1)
          go_wp2
          go_ret3
          refine ⟨_, by rw [HE.out, HQ.out]; rfl, ?_, b1.trans (hb.mono (by omega))⟩
          rw [HE.out, HL.out]
          exact own_base hown (by omega)

end Go.Proofs.Ytkndaeoobafbhaa.num
