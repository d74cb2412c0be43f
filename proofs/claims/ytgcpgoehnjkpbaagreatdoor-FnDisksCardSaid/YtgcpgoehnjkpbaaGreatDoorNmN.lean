/-
  impl.isNameByte, impl.checkName, impl.nameCode, impl.NameOk: their contracts, in worlds that hold errors' type handle.
-/
import Derived.Test.YtgcpgoehnjkpbaaGreatDoorNmM
namespace Go.Proofs.YtgcpgoehnjkpbaaGreatDoor.nam
open Go.RowKit
open kit
open num

set_option maxRecDepth 1000000
/-- errors' own variable holds the handle of the type 'error' -/
def Hand (w : World) : Prop := w.cell? ⟨0, 0, none⟩ = some as.et
theorem hand_below {W W' : World} (h : Hand W) (hb : Below W.heap.size W W') : Hand W' := by
  unfold Hand at *
  rw [hb.cell (p := ⟨0, 0, none⟩) (World.block_lt_of_cell? W _ h)]
  exact h

theorem byteOk_any (c : Nat) (w : World) (hc : c < 256) :
    Calls Tryz.prog 174 #[.int .u8 (c : Int)] w fun e w' => e = .returned (.bool (okc c)) ∧ w' = w := by
  by_cases c1 : 97 ≤ c ∧ c ≤ 122
  · rw [okc_low c c1]
    obtain ⟨e1, e2⟩ := c1
    have e3 : (97 : Int) ≤ c := by omega
    have e4 : (c : Int) ≤ 122 := by omega
    go_enter Tryz.func174, Tryz.ntmps174
    go_wp2
    go_ret
    exact ⟨rfl, rfl⟩
  · by_cases c2 : 48 ≤ c ∧ c ≤ 57
    · rw [okc_dig c c2]
      obtain ⟨e1, e2⟩ := c2
      have e3 : (48 : Int) ≤ c := by omega
      have e4 : (c : Int) ≤ 57 := by omega
      have e5 : ¬ (97 : Int) ≤ c := by omega
      clear c1
      go_enter Tryz.func174, Tryz.ntmps174
      go_wp2
      go_ret
      exact ⟨rfl, rfl⟩
    · by_cases c3 : c = 46
      · subst c3
        rw [show okc 46 = true by decide]
        clear c1 c2 hc
        go_enter Tryz.func174, Tryz.ntmps174
        go_wp2
        go_ret
        exact ⟨rfl, rfl⟩
      · by_cases c4 : c = 45
        · subst c4
          rw [show okc 45 = true by decide]
          clear c1 c2 c3 hc
          go_enter Tryz.func174, Tryz.ntmps174
          go_wp2
          go_ret
          exact ⟨rfl, rfl⟩
        · rw [okc_no c c1 c2 c3 c4]
          have n3 : ((c : Int) == 46) = false := by rw [beq_eq_false_iff_ne]; omega
          have n4 : ((c : Int) == 45) = false := by rw [beq_eq_false_iff_ne]; omega
          have n1 : (decide ((97 : Int) ≤ c) && decide ((c : Int) ≤ 122)) = false := by
            rw [Bool.and_eq_false_iff, decide_eq_false_iff_not, decide_eq_false_iff_not]; omega
          have n2 : (decide ((48 : Int) ≤ c) && decide ((c : Int) ≤ 57)) = false := by
            rw [Bool.and_eq_false_iff, decide_eq_false_iff_not, decide_eq_false_iff_not]; omega
          by_cases d1 : (97 : Int) ≤ c
          · have d2 : ¬ (c : Int) ≤ 122 := by omega
            have d3 : (48 : Int) ≤ c := by omega
            have d4 : ¬ (c : Int) ≤ 57 := by omega
            clear c1 c2 c3 c4 n1 n2
            go_enter Tryz.func174, Tryz.ntmps174
            go_wp2
            go_ret
            exact ⟨rfl, rfl⟩
          · by_cases d3 : (48 : Int) ≤ c
            · have d4 : ¬ (c : Int) ≤ 57 := by omega
              clear c1 c2 c3 c4 n1 n2
              go_enter Tryz.func174, Tryz.ntmps174
              go_wp2
              go_ret
              exact ⟨rfl, rfl⟩
            · clear c1 c2 c3 c4 n1 n2
              go_enter Tryz.func174, Tryz.ntmps174
              go_wp2
              go_ret
              exact ⟨rfl, rfl⟩

def faultV (k : Int) : Value := .iface 152 (.agg #[.int .i64 k])
/-- what checkName answers: nil for a name that is right, else its own error, with a code that is not 0 -/
def PostK (b : ByteArray) (w : World) (e : Ending) (w' : World) : Prop :=
  ((nok b = true ∧ e = .returned .nilIface) ∨ (nok b = false ∧ ∃ k : Int, 0 < k ∧ e = .returned (faultV k))) ∧ w' = w
set_option maxHeartbeats 1000000 in
theorem check_any (b : ByteArray) (w : World) (hb : b.size ≤ 1048576) :
    Calls Tryz.prog 161 #[.string b] w (PostK b w) := by
  by_cases h0 : b.size = 0
  · have HN := Lib.hid (nok_size b (by omega))
    have hz : b = { data := #[] } := by
      apply ByteArray.ext
      exact Array.eq_empty_of_size_eq_zero h0
    subst hz
    go_enter Tryz.func161, Tryz.ntmps161
    go_wp2
    go_ret
    exact ⟨.inr ⟨HN.out, 1, by decide, rfl⟩, rfl⟩
  · have hemp := str_full (show 0 < b.size by omega)
    by_cases h20 : 20 < b.size
    · have HN := Lib.hid (nok_size b (by omega))
      have g20 : (20 : Int) < b.size := by omega
      go_enter Tryz.func161, Tryz.ntmps161
      go_wp2
      go_ret
      exact ⟨.inr ⟨HN.out, 2, by decide, rfl⟩, rfl⟩
    · have g20 : ¬ (20 : Int) < b.size := by omega
      go_enter Tryz.func161, Tryz.ntmps161
      go_wp2
      go_loopw [15] (fun i wr => ∃ j : Nat, j ≤ b.size ∧ i = .int .i64 j ∧ Hid (((nats b 0).take j).all okc = true) ∧ wr = w) (fun i _ => b.size - (intOf i).toNat)
      case atStart => exact ⟨0, Nat.zero_le _, rfl, Lib.hid rfl, rfl⟩
      case round =>
        obtain ⟨j, hj, rfl, ha, rfl⟩ := hrel
        by_cases hlt : j < b.size
        · have hc : b[j].toNat < 256 := b[j].toNat_lt
          have hget : (nats b 0)[j]? = some (b[j].toNat) := by rw [nats_get b 0 j (by omega)]; congr 2; congr 1; omega
          obtain ⟨c, hcc⟩ : ∃ c, b[j].toNat = c := ⟨_, rfl⟩
          rw [hcc] at hc hget
          have HN := Lib.hid (fun h => all_next _ j c hget ha.out h)
          have HZ := Lib.hid (fun h => nok_bad b j c hget h)
          clear hget ha
          have HB := Lib.hid (fun W => byteOk_any c W hc)
          cases hok : okc c with
          | true =>
            have HV := Lib.hid (HN.out hok)
            rw [hok] at HB
            clear hok
            go_wp2_with (go_at_call 174; refine (HB.out _).mono ?_; rintro e w' ⟨rfl, rfl⟩)
            go_roundw
            case rel => exact ⟨j + 1, by omega, by go_num, HV, trivial⟩
            case measure => simp [intOf]; omega
          | false =>
            have HE := Lib.hid (HZ.out hok)
            rw [hok] at HB
            clear hok
            go_wp2_with (go_at_call 174; refine (HB.out _).mono ?_; rintro e w' ⟨rfl, rfl⟩)
            go_ret
            exact ⟨.inr ⟨HE.out, 3, by decide, rfl⟩, rfl⟩
        · obtain rfl : j = b.size := by omega
          have HE := Lib.hid (nok_all b (by have := ha.out; rwa [List.take_of_length_le (by rw [nats_length]; omega)] at this) (by omega))
          clear ha
          go_wp2
          go_ret
          exact ⟨.inl ⟨HE.out, rfl⟩, rfl⟩

/-- what nameCode answers: 0 just for a name that is right -/
def PostN (b : ByteArray) (w : World) (e : Ending) (w' : World) : Prop :=
  (∃ k : Int, e = .returned (.int .i64 k) ∧ (k = 0 ↔ nok b = true)) ∧ Below w.heap.size w w'
theorem below_five (w : World) (o1 o2 o3 o4 o5 : Obj) : Below w.heap.size w (((((w.alloc o1).alloc o2).alloc o3).alloc o4).alloc o5) :=
  (((((Below.refl w.heap.size w).alloc (Nat.le_refl _) o1).alloc (by simp) o2).alloc (by simp; omega) o3).alloc (by simp; omega) o4).alloc (by simp; omega) o5
set_option maxHeartbeats 1000000 in
theorem code_any (b : ByteArray) (w : World) (hb : b.size ≤ 1048576) (h : Hand w) :
    Calls Tryz.prog 146 #[.string b] w (PostN b w) := by
  have HC := Lib.hid (fun W => check_any b W hb)
  have HH := Lib.hid h
  clear h
  go_enter Tryz.func146, Tryz.ntmps146
  go_wp2_with fail
  refine (HC.out _).mono ?_
  rintro e w1 ⟨⟨hn, rfl⟩ | ⟨hn, k, hk, rfl⟩, rfl⟩
  · have HN := Lib.hid hn
    clear hn
    go_wp2_with (go_at_call 160; refine (as.as_nil _ _).mono ?_; rintro e w2 ⟨rfl, rfl⟩)
    go_ret
    exact ⟨⟨0, rfl, by simp [HN.out]⟩, (Below.refl _ _).alloc (Nat.le_refl _) _⟩
  · have HN := Lib.hid hn
    have HK := Lib.hid hk
    clear hn hk
    unfold faultV
    have hH := hand_below HH.out ((Below.refl _ w).alloc (Nat.le_refl _) (.cells #[.int .i64 0] 152))
    have HA := Lib.hid (as.as_hit k 0 ⟨w.heap.size, 0, none⟩ (w.alloc (.cells #[.int .i64 0] 152)) hH (World.cell?_alloc_at _ _ _ _ (by rfl)) (World.frozen?_alloc_at _ _ _ _ rfl))
    clear hH
    go_wp2_with (go_at_call 160; refine HA.out.mono ?_; rintro e w2 ⟨rfl, rfl⟩)
    go_ret
    exact ⟨⟨k, rfl, by have := HK.out; simp [HN.out]; omega⟩, below_five w _ _ _ _ _⟩

theorem implOk_any (b : ByteArray) (w : World) (hb : b.size ≤ 1048576) (h : Hand w) :
    Calls Tryz.prog 121 #[.string b] w (PostR (.bool (nok b)) w) := by
  have HC := Lib.hid (code_any b w hb h)
  clear h
  go_enter Tryz.func121, Tryz.ntmps121
  go_wp2_with fail
  refine HC.out.mono ?_
  rintro e w1 ⟨⟨k, rfl, hk⟩, b1⟩
  obtain ⟨o, ho⟩ : ∃ o, nok b = o := ⟨_, rfl⟩
  have hk2 : (k == 0) = o := by
    rw [← ho]
    cases hn : nok b with
    | true => rw [beq_iff_eq]; exact hk.2 hn
    | false => rw [beq_eq_false_iff_ne]; intro e; rw [hk.1 e] at hn; cases hn
  have HO := Lib.hid ho
  clear ho hk HC
  go_wp2
  go_ret
  exact ⟨by rw [HO.out]; rfl, b1⟩

end Go.Proofs.YtgcpgoehnjkpbaaGreatDoor.nam
