/-
  strconv.ParseInt at base 16 and 64 bits, of texts of 1 to 8 bytes: the library's own text, walked.
-/
import Derived.Test.YtepecjofngoejaaDoorNmG
import Derived.Lib.Strings
import Derived.Lib.ConvBytes
import Derived.Lib.AtoiAllMem
import Derived.Lib.SmallJoins
namespace Go.Proofs.YtepecjofngoejaaDoor.nam
open Go.RowKit
open kit
open num

set_option maxRecDepth 1000000
/-- a byte with its sixth bit set -/
def lo (c : Nat) : Nat := (bits .or .u8 (c : Int) 32).toNat
theorem lo_is' : ∀ c : Fin 256, bits .or .u8 (c.val : Int) 32 = (lo c.val : Int) ∧ lo c.val < 256 := by decide +kernel
theorem lo_is (c : Nat) (h : c < 256) : bits .or .u8 (c : Int) 32 = (lo c : Int) ∧ lo c < 256 := lo_is' ⟨c, h⟩
/-- a figure's value, capitals too -/
def udig (c : Nat) : Option Nat := if 48 ≤ c ∧ c ≤ 57 then some (c - 48) else if 97 ≤ lo c ∧ lo c ≤ 102 then some (lo c - 87) else none
def ustep (o : Option Nat) (c : Nat) : Option Nat := o.bind fun v => (udig c).map fun d => 16 * v + d
def uvalF (o : Option Nat) (l : List Nat) : Option Nat := l.foldl ustep o
def uval (l : List Nat) : Option Nat := uvalF (some 0) l
theorem uvalF_none : ∀ l : List Nat, uvalF none l = none
  | [] => rfl
  | _ :: l => uvalF_none l
theorem lo_small' : ∀ c : Fin 256, 97 ≤ c.val → c.val ≤ 102 → lo c.val = c.val := by decide +kernel
theorem udig_hdig (c d : Nat) (h : hdig c = some d) : udig c = some d := by
  unfold hdig at h
  unfold udig
  split at h
  · rename_i h1
    rw [if_pos h1]; exact h
  · rename_i h1
    rw [if_neg h1]
    split at h
    · rename_i h2
      rw [lo_small' ⟨c, by omega⟩ h2.1 h2.2, if_pos h2]; exact h
    · cases h
theorem uval_hval (l : List Nat) : ∀ v, hval l = some v → uval l = some v := by
  have : ∀ (l : List Nat) (o : Option Nat) (v : Nat), l.foldl hstep o = some v → uvalF o l = some v := by
    intro l
    induction l with
    | nil => intro o v h; exact h
    | cons c r ih =>
      intro o v h
      rw [List.foldl_cons] at h
      have e : uvalF o (c :: r) = uvalF (ustep o c) r := rfl
      rw [e]
      cases hs : hstep o c with
      | none =>
        rw [hs] at h
        have hn : ∀ l : List Nat, l.foldl hstep none = none := by
          intro l
          induction l with
          | nil => rfl
          | cons c r ih => exact ih
        rw [hn] at h
        cases h
      | some x =>
        rw [hs] at h
        have : ustep o c = some x := by
          unfold hstep at hs
          unfold ustep
          cases o with
          | none => cases hs
          | some u =>
            rw [Option.bind_some] at hs ⊢
            cases hd : hdig c with
            | none => rw [hd] at hs; cases hs
            | some d => rw [udig_hdig c d hd]; rw [hd] at hs; exact hs
        rw [this]
        exact ih _ _ h
  exact this l (some 0)

/-- what ParseUint answers at base 16 -/
def puV : Option Nat → Value
  | none => .tuple #[.int .u64 0, .iface 122 (.int .i64 2)]
  | some n => .tuple #[.int .u64 (n : Int), .nilIface]

set_option maxHeartbeats 4000000 in
theorem parseUint16_any (s : ByteArray) (w : World) (h0 : 0 < s.size) (h8 : s.size ≤ 8) :
    Calls Tryd.prog 96 #[.string s, .int .i64 16, .int .i64 64] w fun e w' => e = .returned (puV (uval (nats s 0))) ∧ Below w.heap.size w w' := by
  have hemp := str_full h0
  have hcv := Lib.run_convert_string_bytes (P := Tryd.prog) w 9 22 5 s (u := .string) Tryd.underlying9 Tryd.underlying22 Tryd.underlying5
  have hB : ∀ j, (hj : j < s.size) → (Lib.bytesWorld w 5 s).cell? ⟨w.heap.size, j, none⟩ = some (.int .u8 s[j].toNat) := fun j hj => by
    rw [Lib.bytesWorld_cell w 5 s j hj, List.getD, List.getElem?_eq_getElem (show j < s.data.toList.length from hj)]
    rfl
  have hb1 : Below w.heap.size w (Lib.bytesWorld w 5 s) := Joins.below_bytesWorld _ _ _ _ (Nat.le_refl _)
  obtain ⟨W1, hW1⟩ : ∃ W1, W1 = Lib.bytesWorld w 5 s := ⟨_, rfl⟩
  rw [← hW1] at hcv hB hb1
  clear hW1
  have hmv : IntKind.u64.wrap (IntKind.u64.wrap 18446744073709551616 - 1) = 18446744073709551615 := by
    rw [IntKind.wrap_u64, IntKind.wrap_u64]
    decide
  go_enter Tryd.func96, Tryd.ntmps96
  go_wp2
  go_loop [12, 13, 101] (fun vu vn vi => ∃ (k acc : Nat) (a : Int), vu = .bool false ∧ vn = .int .u64 a ∧ vi = .int .i64 k ∧ k ≤ s.size ∧ Hid (a = (acc : Int) ∧ acc < 16 ^ k ∧ uval (nats s 0) = uvalF (some acc) ((nats s 0).drop k)))
    (fun _ _ vi => s.size - (intOf vi).toNat)
  case atStart => exact ⟨0, 0, 0, rfl, rfl, rfl, by omega, rfl, by omega, rfl⟩
  case round =>
    obtain ⟨k, acc, a, rfl, rfl, rfl, hk, hh⟩ := hrel
    obtain ⟨ha, hacc, hdec⟩ := hh.out
    clear hh
    have a0 : 0 ≤ a := by omega
    by_cases hkn : k < s.size
    · have hc := hB k hkn
      have hget : (nats s 0)[k]? = some s[k].toNat := by have := nats_get s 0 k (by omega); simpa using this
      have hdrop : (nats s 0).drop k = s[k].toNat :: (nats s 0).drop (k + 1) := by
        rw [List.drop_eq_getElem_cons (by rw [nats_length]; omega)]
        congr 1
        rw [List.getElem?_eq_getElem (by rw [nats_length]; omega)] at hget
        exact Option.some.inj hget
      rw [hdrop] at hdec
      have hc256 : s[k].toNat < 256 := s[k].toNat_lt
      generalize s[k].toNat = c at hc hdec hc256
      have hstep : uvalF (some acc) (c :: (nats s 0).drop (k + 1)) = uvalF (ustep (some acc) c) ((nats s 0).drop (k + 1)) := rfl
      rw [hstep] at hdec
      have hp : acc < 16 ^ 7 := Nat.lt_of_lt_of_le hacc (Nat.pow_le_pow_right (by decide) (by omega))
      rw [show (16 : Nat) ^ 7 = 268435456 by decide] at hp
      have a1 : a < 268435456 := by omega
      have hpk : ∀ d, d < 16 → 16 * acc + d < 16 ^ (k + 1) := fun d hd => by rw [Nat.pow_succ]; omega
      obtain ⟨hl, hl256⟩ := lo_is c hc256
      have hud : ∀ d, udig c = some d → uval (nats s 0) = uvalF (some (16 * acc + d)) ((nats s 0).drop (k + 1)) := fun d hd => by rw [hdec]; unfold ustep; rw [Option.bind_some, hd]; rfl
      have hun : udig c = none → puV (uval (nats s 0)) = puV none := fun hd => by rw [hdec]; unfold ustep; rw [Option.bind_some, hd]; simp only [Option.map_none]; rw [uvalF_none]
      clear hB hdrop hget hdec hstep hp
      by_cases hdig : 48 ≤ c ∧ c ≤ 57
      · obtain ⟨hd0, hd1⟩ := hdig
        have HN : Hid (a * 16 + ((c : Int) - 48) = ((16 * acc + (c - 48) : Nat) : Int) ∧ 16 * acc + (c - 48) < 16 ^ (k + 1) ∧ uval (nats s 0) = uvalF (some (16 * acc + (c - 48))) ((nats s 0).drop (k + 1))) := Lib.hid ⟨by omega, hpk _ (by omega), hud _ (if_pos ⟨hd0, hd1⟩)⟩
        clear hud hun hacc ha hpk hl
        go_wp2
        refine ⟨⟨k + 1, 16 * acc + (c - 48), a * 16 + ((c : Int) - 48), rfl, (by first | rfl | (congr 1; omega)), (by first | rfl | (congr 1; omega)), by omega, HN⟩, by simp [intOf]; omega⟩
      · obtain ⟨l, hll⟩ : ∃ l, lo c = l := ⟨_, rfl⟩
        rw [hll] at hl hl256
        by_cases h97 : 97 ≤ l ∧ l ≤ 102
        · have HN : Hid (a * 16 + ((l : Int) - 97 + 10) = ((16 * acc + (l - 87) : Nat) : Int) ∧ 16 * acc + (l - 87) < 16 ^ (k + 1) ∧ uval (nats s 0) = uvalF (some (16 * acc + (l - 87))) ((nats s 0).drop (k + 1))) := Lib.hid ⟨by omega, hpk _ (by omega), hud _ (by unfold udig; rw [if_neg hdig, hll, if_pos h97])⟩
          have h95 : c ≠ 95 := by
            rintro rfl
            have : lo 95 = 127 := by decide +kernel
            omega
          obtain ⟨hl0, hl1⟩ := h97
          clear hud hun hacc ha hpk hll
          go_wp2_with (go_at_call 112; go_in)
          all_goals refine ⟨⟨k + 1, 16 * acc + (l - 87), a * 16 + ((l : Int) - 97 + 10), rfl, (by first | rfl | (congr 1; omega)), (by first | rfl | (congr 1; omega)), by omega, HN⟩, by simp [intOf]; omega⟩
        · have HU := Lib.hid (hun (by unfold udig; rw [if_neg hdig, hll, if_neg h97]))
          clear hud hun hacc ha hpk
          have hu0 := bits_lo_u8 .or 95 32
          have hu1 := bits_hi_u8 .or 95 32
          go_wp2_with (go_at_call 112; go_in)
          all_goals go_ret2
          all_goals exact ⟨by rw [HU.out]; rfl, hb1⟩
    · obtain rfl : k = s.size := by omega
      have hF : puV (uval (nats s 0)) = puV (some acc) := by rw [hdec, List.drop_eq_nil_of_le (by rw [nats_length]; omega)]; rfl
      have HF := Lib.hid hF
      subst ha
      clear hacc hdec hF
      go_wp2
      go_ret2
      exact ⟨by rw [HF.out]; rfl, hb1⟩

end Go.Proofs.YtepecjofngoejaaDoor.nam
