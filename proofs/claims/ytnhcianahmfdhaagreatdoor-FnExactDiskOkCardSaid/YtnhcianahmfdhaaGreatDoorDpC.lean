/-
  Contract of spec.l06Step: what a step says.
-/
import Derived.Test.YtnhcianahmfdhaaGreatDoorDpB
import Derived.Test.YtnhcianahmfdhaaGreatDoorNameB
import Derived.Test.YtnhcianahmfdhaaGreatDoorRdS
import Derived.IntWalk
namespace Go.Proofs.YtnhcianahmfdhaaGreatDoor.deed
open Go.RowKit
open kit strs recs disk kd

theorem said_short {s : ByteArray} (h : s.size < 2) : saidOf s = noSaid := by unfold saidOf; rw [if_pos h]
theorem said_other {s : ByteArray} (h : ¬ s.size < 2) (h1 : ¬ byteAt s 0 = 45) (h2 : ¬ (byteAt s 0 = 43 ∨ byteAt s 0 = 62)) : saidOf s = noSaid := by unfold saidOf; rw [if_neg h, if_neg h1, if_neg h2]
theorem said_minus {s : ByteArray} (h : ¬ s.size < 2) (h1 : byteAt s 0 = 45) : saidOf s = ⟨s.extract 1 s.size, { data := #[] }, 0, true⟩ := by unfold saidOf; rw [if_neg h, if_pos h1]
theorem said_none {s : ByteArray} (h : ¬ s.size < 2) (h2 : byteAt s 0 = 43 ∨ byteAt s 0 = 62) (hc : colon s (s.size - 1) 1 = none) : saidOf s = noSaid := by
  unfold saidOf
  rw [if_neg h, if_neg (by omega), if_pos h2, hc]
theorem said_move {s : ByteArray} {i : Nat} (h : ¬ s.size < 2) (h2 : byteAt s 0 = 62) (hc : colon s (s.size - 1) 1 = some i) :
    saidOf s = ⟨s.extract 1 i, s.extract (i + 1) s.size, 0, nam.nok (s.extract (i + 1) s.size) && !decide (s.extract 1 i = s.extract (i + 1) s.size)⟩ := by
  unfold saidOf
  rw [if_neg h, if_neg (by omega), if_pos (.inr h2), hc]
  simp only [h2, if_true]
theorem said_plus {s : ByteArray} {i : Nat} (h : ¬ s.size < 2) (h2 : byteAt s 0 = 43) (hc : colon s (s.size - 1) 1 = some i) :
    saidOf s = ⟨s.extract 1 i, { data := #[] }, (readN (s.extract (i + 1) s.size)).1, (readN (s.extract (i + 1) s.size)).2 && nam.nok (s.extract 1 i)⟩ := by
  unfold saidOf
  rw [if_neg h, if_neg (by omega), if_pos (.inl h2), hc]
  simp only [show ¬ byteAt s 0 = 62 by omega, if_false]
theorem colon_yes {s : ByteArray} {f i : Nat} (h : byteAt s i = 58) : colon s (f + 1) i = some i := by simp [colon, h]
theorem colon_no {s : ByteArray} {f i : Nat} (h : ¬ byteAt s i = 58) : colon s (f + 1) i = colon s f (i + 1) := by simp [colon, h]
def saidV (q : Said) : Value := .tuple #[.string q.name, .string q.to, .int .i64 q.id, .bool q.ok]
theorem read_V (b : ByteArray) : rd.rdV b = .tuple #[.int .i64 (readN b).1, .bool (readN b).2] := by unfold rd.rdV readN; cases rd.RD b.data.toList <;> rfl
theorem byte_at {s : ByteArray} {i c : Nat} (h : i < s.size) (hc : byteAt s i = c) : ((s[i]'h).toNat : Int) = (c : Int) := by rw [← hc, byteAt_in h]

theorem okQ {b : ByteArray} {q : Bool} (hm : b.size ≤ 9223372036854775807) (h : nam.nok b = q) : ∀ w, Calls Tryz.prog 58 #[.string b] w fun e w' => e = .returned (.bool q) ∧ w' = w :=
  fun w => (nam.specOk_any b w hm).mono fun _ _ ⟨h1, h2⟩ => ⟨by rw [h1, h], h2.symm⟩

set_option maxHeartbeats 4000000 in
set_option maxRecDepth 100000 in
theorem specStep (s : ByteArray) (w : World) (hm : s.size ≤ 1000000000) :
    Calls Tryz.prog 57 #[.string s] w fun e w' => e = .returned (saidV (saidOf s)) ∧ Below w.heap.size w w' := by
  by_cases hsz : s.size < 2
  · have HR := Lib.hid (said_short hsz)
    go_enter Tryz.func57, Tryz.ntmps57
    go_wp2
    exact bodyPost_ret (v := .tuple #[.string { data := #[] }, .string { data := #[] }, .int .i64 0, .bool false]) (by simp [results, Tryz.results57, go_sem]) rfl ⟨by rw [HR.out]; rfl, Below.refl _ _⟩
  · have hp : 0 < s.size := by omega
    have hp2 : ¬ (s.size : Int) < 2 := by omega
    obtain ⟨c, hc⟩ : ∃ c, byteAt s 0 = c := ⟨_, rfl⟩
    have hb0 := byte_at hp hc
    by_cases h45 : c = 45
    · have HR := Lib.hid (said_minus hsz (hc.trans h45))
      rw [h45] at hb0
      clear hc h45
      go_enter Tryz.func57, Tryz.ntmps57
      go_wp2
      exact bodyPost_ret (v := .tuple #[.string (s.extract 1 s.size), .string { data := #[] }, .int .i64 0, .bool true]) (by simp [results, Tryz.results57, go_sem]) rfl ⟨by rw [HR.out]; rfl, Below.refl _ _⟩
    · by_cases hother : ¬ (c = 43 ∨ c = 62)
      · have HR := Lib.hid (said_other hsz (by rw [hc]; exact h45) (by rw [hc]; exact hother))
        have g1 : ((c : Int) == 43) = false := by simp; omega
        have n1 : ((c : Int) != 43) = true := by simp; omega
        have p1 : ¬ (c : Int) = 43 := by omega
        have g2 : ((c : Int) == 45) = false := by simp; omega
        have n2 : ((c : Int) != 45) = true := by simp; omega
        have p2 : ¬ (c : Int) = 45 := by omega
        have g3 : ((c : Int) == 62) = false := by simp; omega
        have n3 : ((c : Int) != 62) = true := by simp; omega
        have p3 : ¬ (c : Int) = 62 := by omega
        clear hc h45 hother
        go_enter Tryz.func57, Tryz.ntmps57
        go_wp2
        exact bodyPost_ret (v := .tuple #[.string { data := #[] }, .string { data := #[] }, .int .i64 0, .bool false]) (by simp [results, Tryz.results57, go_sem]) rfl ⟨by rw [HR.out]; rfl, Below.refl _ _⟩
      · rcases (show c = 43 ∨ c = 62 by omega) with h | h
        · rw [h] at hb0
          have HC := Lib.hid (hc.trans h)
          clear hc h h45 hother
          go_enter Tryz.func57, Tryz.ntmps57
          go_wp2
          go_loopw [6] (fun i wr => ∃ k : Nat, 1 ≤ k ∧ k ≤ s.size ∧ i = .int .i64 k ∧ Hid (colon s (s.size - 1) 1 = colon s (s.size - k) k) ∧ wr = w) (fun i _ => s.size - (intOf i).toNat)
          case atStart => exact ⟨1, Nat.le_refl _, by omega, rfl, Lib.hid rfl, rfl⟩
          case round =>
            obtain ⟨k, hk1, hk, rfl, hf, rfl⟩ := hrel
            by_cases hlt : k < s.size
            · obtain ⟨f, hfu⟩ : ∃ f, s.size - k = f + 1 := ⟨s.size - k - 1, by omega⟩
              have HF := Lib.hid (show colon s (s.size - 1) 1 = colon s (f + 1) k by rw [hf.out, hfu])
              have hf2 : s.size - (k + 1) = f := by omega
              have HF2 := Lib.hid hf2
              obtain ⟨x, hx⟩ : ∃ x, byteAt s k = x := ⟨_, rfl⟩
              have hbk := byte_at hlt hx
              clear hfu hf2
              by_cases e : x = 58
              · have HR := Lib.hid (said_plus hsz HC.out (HF.out.trans (colon_yes (hx.trans e))))
                rw [e] at hbk
                clear hx e
                have k1 : (1 : Int) ≤ (k : Int) := by omega
                have hs1 : (s.extract 1 k).size ≤ 9223372036854775807 := by rw [ByteArray.size_extract]; omega
                have hs2 : (s.extract (k + 1) s.size).size ≤ 9223372036854775807 := by rw [ByteArray.size_extract]; omega
                have kw : IntKind.i64.wrap ((k : Int) + 1) = (k : Int) + 1 := IntWalk.i64_in _ (by omega)
                cases hok : (readN (s.extract (k + 1) s.size)).2 with
                | false =>
                  have HR2 := Lib.hid (show saidV (saidOf s) = .tuple #[.string (s.extract 1 k), .string { data := #[] }, .int .i64 (readN (s.extract (k + 1) s.size)).1, .bool false] by rw [HR.out, hok]; rfl)
                  have HV := Lib.hid (show rd.rdV (s.extract (k + 1) s.size) = .tuple #[.int .i64 (readN (s.extract (k + 1) s.size)).1, .bool false] by rw [read_V, hok])
                  obtain ⟨n, hn⟩ : ∃ n, n = (readN (s.extract (k + 1) s.size)).1 := ⟨_, rfl⟩
                  rw [← hn] at HV HR2
                  clear hn hok
                  go_wp2_with (fail)
                  refine (rd.specRead_any _ _ hs2).mono ?_
                  rw [HV.out]
                  rintro e w1 ⟨rfl, hb1⟩
                  go_wp2
                  go_quiet (fail)
                  go_wp2
                  exact bodyPost_ret (v := .tuple #[.string (s.extract 1 k), .string { data := #[] }, .int .i64 n, .bool false]) (by simp [results, Tryz.results57, go_sem]) rfl ⟨by rw [HR2.out], below_drewN hb1 _⟩
                | true =>
                  have HR2 := Lib.hid (show saidV (saidOf s) = .tuple #[.string (s.extract 1 k), .string { data := #[] }, .int .i64 (readN (s.extract (k + 1) s.size)).1, .bool (nam.nok (s.extract 1 k))] by rw [HR.out, hok]; simp [saidV])
                  have HV := Lib.hid (show rd.rdV (s.extract (k + 1) s.size) = .tuple #[.int .i64 (readN (s.extract (k + 1) s.size)).1, .bool true] by rw [read_V, hok])
                  obtain ⟨n, hn⟩ : ∃ n, n = (readN (s.extract (k + 1) s.size)).1 := ⟨_, rfl⟩
                  obtain ⟨q, hq⟩ : ∃ q, q = nam.nok (s.extract 1 k) := ⟨_, rfl⟩
                  have CQ := Lib.hid (okQ hs1 hq.symm)
                  rw [← hn] at HV HR2
                  rw [← hq] at HR2
                  clear hn hok hq
                  go_wp2_with (fail)
                  refine (rd.specRead_any _ _ hs2).mono ?_
                  rw [HV.out]
                  rintro e w1 ⟨rfl, hb1⟩
                  go_wp2
                  go_quiet ((go_at_call 58; exact Calls.quiet_of_same (CQ.out _)))
                  go_wp2
                  exact bodyPost_ret (v := .tuple #[.string (s.extract 1 k), .string { data := #[] }, .int .i64 n, .bool q]) (by simp [results, Tryz.results57, go_sem]) rfl ⟨by rw [HR2.out], below_drewN hb1 _⟩
              · have HN := Lib.hid (HF.out.trans (colon_no (by rw [hx]; exact e)))
                have g1 : ((x : Int) == 58) = false := by simp; omega
                clear hx e
                go_wp2
                go_roundw
                case rel => exact ⟨k + 1, by omega, by omega, by go_num, Lib.hid (by rw [HF2.out]; exact HN.out), trivial⟩
                case measure => simp [intOf]; omega
            · obtain rfl : k = s.size := by omega
              have HR := Lib.hid (said_none hsz (.inl HC.out) (hf.out.trans (by rw [Nat.sub_self]; rfl)))
              go_wp2
              exact bodyPost_ret (v := .tuple #[.string { data := #[] }, .string { data := #[] }, .int .i64 0, .bool false]) (by simp [results, Tryz.results57, go_sem]) rfl ⟨by rw [HR.out]; rfl, Below.refl _ _⟩
        · rw [h] at hb0
          have HC := Lib.hid (hc.trans h)
          clear hc h h45 hother
          go_enter Tryz.func57, Tryz.ntmps57
          go_wp2
          go_loopw [6] (fun i wr => ∃ k : Nat, 1 ≤ k ∧ k ≤ s.size ∧ i = .int .i64 k ∧ Hid (colon s (s.size - 1) 1 = colon s (s.size - k) k) ∧ wr = w) (fun i _ => s.size - (intOf i).toNat)
          case atStart => exact ⟨1, Nat.le_refl _, by omega, rfl, Lib.hid rfl, rfl⟩
          case round =>
            obtain ⟨k, hk1, hk, rfl, hf, rfl⟩ := hrel
            by_cases hlt : k < s.size
            · obtain ⟨f, hfu⟩ : ∃ f, s.size - k = f + 1 := ⟨s.size - k - 1, by omega⟩
              have HF := Lib.hid (show colon s (s.size - 1) 1 = colon s (f + 1) k by rw [hf.out, hfu])
              have hf2 : s.size - (k + 1) = f := by omega
              have HF2 := Lib.hid hf2
              obtain ⟨x, hx⟩ : ∃ x, byteAt s k = x := ⟨_, rfl⟩
              have hbk := byte_at hlt hx
              clear hfu hf2
              by_cases e : x = 58
              · have HR := Lib.hid (said_move hsz HC.out (HF.out.trans (colon_yes (hx.trans e))))
                rw [e] at hbk
                clear hx e
                have k1 : (1 : Int) ≤ (k : Int) := by omega
                have k0 : (0 : Int) ≤ (k : Int) + 1 := by omega
                have kn : ((k : Int) + 1).toNat = k + 1 := by omega
                have ks : k + 1 ≤ s.size := by omega
                have hs2 : (s.extract (k + 1) s.size).size ≤ 9223372036854775807 := by rw [ByteArray.size_extract]; omega
                cases hok : nam.nok (s.extract (k + 1) s.size) with
                | false =>
                  have HR2 := Lib.hid (show saidV (saidOf s) = .tuple #[.string (s.extract 1 k), .string (s.extract (k + 1) s.size), .int .i64 0, .bool false] by rw [HR.out, hok]; rfl)
                  have CQ := Lib.hid (okQ hs2 hok)
                  clear hok
                  have kw : IntKind.i64.wrap ((k : Int) + 1) = (k : Int) + 1 := IntWalk.i64_in _ (by omega)
                  go_wp2
                  go_quiet ((go_at_call 58; exact Calls.quiet_of_same (CQ.out _)))
                  go_wp2
                  exact bodyPost_ret (v := .tuple #[.string (s.extract 1 k), .string (s.extract (k + 1) s.size), .int .i64 0, .bool false]) (by simp [results, Tryz.results57, go_sem]) rfl ⟨by rw [HR2.out], below_drewN (Below.refl _ _) _⟩
                | true =>
                  have CQ := Lib.hid (okQ hs2 hok)
                  have kw : IntKind.i64.wrap ((k : Int) + 1) = (k : Int) + 1 := IntWalk.i64_in _ (by omega)
                  by_cases heq : s.extract 1 k = s.extract (k + 1) s.size
                  · have HR2 := Lib.hid (show saidV (saidOf s) = .tuple #[.string (s.extract 1 k), .string (s.extract (k + 1) s.size), .int .i64 0, .bool false] by rw [HR.out, hok]; simp [saidV, heq])
                    have hbe := bytes_eq heq
                    clear hok heq
                    go_wp2
                    go_quiet ((go_at_call 58; exact Calls.quiet_of_same (CQ.out _)))
                    go_wp2
                    exact bodyPost_ret (v := .tuple #[.string (s.extract 1 k), .string (s.extract (k + 1) s.size), .int .i64 0, .bool false]) (by simp [results, Tryz.results57, go_sem]) rfl ⟨by rw [HR2.out], below_drewN (Below.refl _ _) _⟩
                  · have HR2 := Lib.hid (show saidV (saidOf s) = .tuple #[.string (s.extract 1 k), .string (s.extract (k + 1) s.size), .int .i64 0, .bool true] by rw [HR.out, hok]; simp [saidV, heq])
                    have hbe := bytes_ne heq
                    clear hok heq
                    go_wp2
                    go_quiet ((go_at_call 58; exact Calls.quiet_of_same (CQ.out _)))
                    go_wp2
                    exact bodyPost_ret (v := .tuple #[.string (s.extract 1 k), .string (s.extract (k + 1) s.size), .int .i64 0, .bool true]) (by simp [results, Tryz.results57, go_sem]) rfl ⟨by rw [HR2.out], below_drewN (Below.refl _ _) _⟩
              · have HN := Lib.hid (HF.out.trans (colon_no (by rw [hx]; exact e)))
                have g1 : ((x : Int) == 58) = false := by simp; omega
                clear hx e
                go_wp2
                go_roundw
                case rel => exact ⟨k + 1, by omega, by omega, by go_num, Lib.hid (by rw [HF2.out]; exact HN.out), trivial⟩
                case measure => simp [intOf]; omega
            · obtain rfl : k = s.size := by omega
              have HR := Lib.hid (said_none hsz (.inr HC.out) (hf.out.trans (by rw [Nat.sub_self]; rfl)))
              go_wp2
              exact bodyPost_ret (v := .tuple #[.string { data := #[] }, .string { data := #[] }, .int .i64 0, .bool false]) (by simp [results, Tryz.results57, go_sem]) rfl ⟨by rw [HR.out]; rfl, Below.refl _ _⟩

end Go.Proofs.YtnhcianahmfdhaaGreatDoor.deed
