/-
  strconv.ParseInt at base 16 and 64 bits, of texts of 8 bytes: its contract.
-/
import Derived.Test.YtepecjofngoejaaDoorNmH
namespace Go.Proofs.YtepecjofngoejaaDoor.nam
open Go.RowKit
open kit
open num

set_option maxRecDepth 1000000
def piE : Value := .tuple #[.int .i64 0, .iface 122 (.int .i64 2)]
def piN (n : Int) : Value := .tuple #[.int .i64 n, .nilIface]
/-- what is known of ParseInt's answer -/
def PostI (s : ByteArray) (w : World) (e : Ending) (w' : World) : Prop :=
  ((e = .returned piE ∧ uval (nats s 0) = none) ∨ ∃ n : Int, e = .returned (piN n) ∧ -4294967296 < n ∧ n < 4294967296 ∧ ∀ v : Nat, uval (nats s 0) = some v → n = (v : Int)) ∧ Below w.heap.size w w'

theorem uvalF_lt (l : List Nat) : ∀ (u v k : Nat), u < 16 ^ k → uvalF (some u) l = some v → v < 16 ^ (k + l.length) := by
  induction l with
  | nil => intro u v k hu h; simp [uvalF] at h; subst h; simpa using hu
  | cons c r ih =>
    intro u v k hu h
    have e : uvalF (some u) (c :: r) = uvalF (ustep (some u) c) r := rfl
    rw [e] at h
    unfold ustep at h
    rw [Option.bind_some] at h
    cases hd : udig c with
    | none => rw [hd] at h; simp only [Option.map_none] at h; rw [uvalF_none] at h; cases h
    | some d =>
      have hd16 : d < 16 := by
        unfold udig at hd
        split at hd
        · simp at hd; omega
        · split at hd
          · simp at hd; omega
          · cases hd
      rw [hd] at h
      simp only [Option.map_some] at h
      have := ih _ _ (k + 1) (by rw [Nat.pow_succ]; omega) h
      rw [List.length_cons, show k + (r.length + 1) = k + 1 + r.length by omega]
      exact this
theorem uval_lt (s : ByteArray) (v : Nat) (h8 : s.size ≤ 8) (h : uval (nats s 0) = some v) : v < 4294967296 := by
  have := uvalF_lt _ 0 v 0 (by decide) h
  rw [nats_length] at this
  exact Nat.lt_of_lt_of_le this (by rw [show (4294967296 : Nat) = 16 ^ 8 by decide]; exact Nat.pow_le_pow_right (by decide) (by omega))

theorem synt_ne (W : World) : (binOp .neq 66 (.iface 122 (.int .i64 2)) (.iface 122 (.int .i64 1))).run Tryd.prog W = .ok (.bool true) W := by kernel_rfl

theorem sign_none (s : ByteArray) (c : Nat) (h0 : 0 < s.size) (hc : s[0].toNat = c) (h : udig c = none) : uval (nats s 0) = none := by
  have hget : (nats s 0)[0]? = some c := by have := nats_get s 0 0 (by omega); simpa [hc] using this
  cases hl : nats s 0 with
  | nil => rw [hl] at hget; cases hget
  | cons x r =>
    rw [hl] at hget
    obtain rfl : x = c := Option.some.inj hget
    have e : uval (x :: r) = uvalF (ustep (some 0) x) r := rfl
    rw [e]
    unfold ustep
    rw [Option.bind_some, h]
    exact uvalF_none r
set_option maxHeartbeats 4000000 in
theorem parseInt16_int (s : ByteArray) (w : World) (h8 : s.size = 8) :
    Calls Tryd.prog 72 #[.string s, .int .i64 16, .int .i64 64] w (PostI s w) := by
  have hemp := str_full (show 0 < s.size by omega)
  have hs0 : 0 < s.size := by omega
  have hsn := synt_ne
  obtain ⟨c, hc⟩ : ∃ c, s[0].toNat = c := ⟨_, rfl⟩
  by_cases h43 : c = 43
  · subst h43
    obtain ⟨t, ht⟩ : ∃ t, s.extract 1 8 = t := ⟨_, rfl⟩
    have ht7 : t.size = 7 := by rw [← ht, ByteArray.size_extract]; omega
    have HU := Lib.hid (parseUint16_any t w (by omega) (by omega))
    have HS := Lib.hid (sign_none s 43 hs0 hc (by decide +kernel))
    cases hv : uval (nats t 0) with
    | none =>
      have HU := Lib.hid (show Calls Tryd.prog 96 #[.string t, .int .i64 16, .int .i64 64] w fun e w' => e = .returned (.tuple #[.int .u64 0, .iface 122 (.int .i64 2)]) ∧ Below w.heap.size w w' by rw [hv] at HU; exact HU.out)
      clear hv
      go_enter Tryd.func72, Tryd.ntmps72
      go_wp2_with (go_at_call 96; refine HU.out.mono ?_; rintro e w1 ⟨rfl, b1⟩)
      go_ret2
      exact ⟨.inl ⟨rfl, HS.out⟩, b1⟩
    | some v =>
      obtain ⟨a, ha⟩ : ∃ a : Int, a = (v : Int) := ⟨_, rfl⟩
      have HU := Lib.hid (show Calls Tryd.prog 96 #[.string t, .int .i64 16, .int .i64 64] w fun e w' => e = .returned (.tuple #[.int .u64 a, .nilIface]) ∧ Below w.heap.size w w' by rw [hv] at HU; rw [ha]; exact HU.out)
      have hlt := uval_lt t v (by omega) hv
      have a0 : 0 ≤ a := by omega
      have a1 : a < 4294967296 := by omega
      have hng : IntKind.i64.wrap (-a) = -a := by rw [IntKind.wrap_i64]; omega
      clear hv ha hlt
      go_enter Tryd.func72, Tryd.ntmps72
      go_wp2_with (go_at_call 96; refine HU.out.mono ?_; rintro e w1 ⟨rfl, b1⟩)
      go_ret2
      refine ⟨.inr ⟨_, rfl, by omega, by omega, fun v' hv' => ?_⟩, b1⟩
      rw [HS.out] at hv'
      cases hv'
  · by_cases h45 : c = 45
    · subst h45
      obtain ⟨t, ht⟩ : ∃ t, s.extract 1 8 = t := ⟨_, rfl⟩
      have ht7 : t.size = 7 := by rw [← ht, ByteArray.size_extract]; omega
      have HU := Lib.hid (parseUint16_any t w (by omega) (by omega))
      have HS := Lib.hid (sign_none s 45 hs0 hc (by decide +kernel))
      cases hv : uval (nats t 0) with
      | none =>
        have HU := Lib.hid (show Calls Tryd.prog 96 #[.string t, .int .i64 16, .int .i64 64] w fun e w' => e = .returned (.tuple #[.int .u64 0, .iface 122 (.int .i64 2)]) ∧ Below w.heap.size w w' by rw [hv] at HU; exact HU.out)
        clear hv
        go_enter Tryd.func72, Tryd.ntmps72
        go_wp2_with (go_at_call 96; refine HU.out.mono ?_; rintro e w1 ⟨rfl, b1⟩)
        go_ret2
        exact ⟨.inl ⟨rfl, HS.out⟩, b1⟩
      | some v =>
        obtain ⟨a, ha⟩ : ∃ a : Int, a = (v : Int) := ⟨_, rfl⟩
        have HU := Lib.hid (show Calls Tryd.prog 96 #[.string t, .int .i64 16, .int .i64 64] w fun e w' => e = .returned (.tuple #[.int .u64 a, .nilIface]) ∧ Below w.heap.size w w' by rw [hv] at HU; rw [ha]; exact HU.out)
        have hlt := uval_lt t v (by omega) hv
        have a0 : 0 ≤ a := by omega
        have a1 : a < 4294967296 := by omega
        have hng : IntKind.i64.wrap (-a) = -a := by rw [IntKind.wrap_i64]; omega
        clear hv ha hlt
        go_enter Tryd.func72, Tryd.ntmps72
        go_wp2_with (go_at_call 96; refine HU.out.mono ?_; rintro e w1 ⟨rfl, b1⟩)
        go_ret2
        refine ⟨.inr ⟨_, rfl, by omega, by omega, fun v' hv' => ?_⟩, b1⟩
        rw [HS.out] at hv'
        cases hv'
    · have HU := Lib.hid (parseUint16_any s w hs0 (by omega))
      cases hv : uval (nats s 0) with
      | none =>
        have HU := Lib.hid (show Calls Tryd.prog 96 #[.string s, .int .i64 16, .int .i64 64] w fun e w' => e = .returned (.tuple #[.int .u64 0, .iface 122 (.int .i64 2)]) ∧ Below w.heap.size w w' by rw [hv] at HU; exact HU.out)
        have HE := Lib.hid hv
        clear hv
        go_enter Tryd.func72, Tryd.ntmps72
        go_wp2_with (go_at_call 96; refine HU.out.mono ?_; rintro e w1 ⟨rfl, b1⟩)
        go_ret2
        exact ⟨.inl ⟨rfl, HE.out⟩, b1⟩
      | some v =>
        obtain ⟨a, ha⟩ : ∃ a : Int, a = (v : Int) := ⟨_, rfl⟩
        have HU := Lib.hid (show Calls Tryd.prog 96 #[.string s, .int .i64 16, .int .i64 64] w fun e w' => e = .returned (.tuple #[.int .u64 a, .nilIface]) ∧ Below w.heap.size w w' by rw [hv] at HU; rw [ha]; exact HU.out)
        have hlt := uval_lt s v (by omega) hv
        have a0 : 0 ≤ a := by omega
        have a1 : a < 4294967296 := by omega
        have HE := Lib.hid (And.intro hv ha)
        clear hv ha hlt
        go_enter Tryd.func72, Tryd.ntmps72
        go_wp2_with (go_at_call 96; refine HU.out.mono ?_; rintro e w1 ⟨rfl, b1⟩)
        go_ret2
        refine ⟨.inr ⟨a, rfl, by omega, by omega, fun v' hv' => ?_⟩, b1⟩
        obtain ⟨q1, q2⟩ := HE.out
        rw [q1] at hv'
        injection hv' with hv'
        omega

end Go.Proofs.YtepecjofngoejaaDoor.nam
