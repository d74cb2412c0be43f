/-
  Contract of impl.TableSum over the table that a function makes.
-/
import Derived.Test.YtkhkohbgiipbbaaSumT
import Derived.Test.YtkhkohbgiipbbaaSumJoin
namespace Go.Proofs.Ytkhkohbgiipbbaa.sum
open Go.RowKit
open kit

theorem tab_at (j : Nat) (h : j < 256) : (tcells 256)[j]? = some (.int .u32 ((stN 8 j : Nat) : Int)) := by
  rw [tcells_at 256 j h]
  unfold tcell
  rw [if_pos h]
  have e := sumByte_nat 0 j (by decide) h
  rw [Nat.zero_xor] at e
  rw [← e]
  rfl

/-- the table is answered, under a name of its own -/
theorem sumTable_named (T : Array Value) (hT : tcells 256 = T) (w : World) : Calls Try.prog 33 #[] w fun e w' => e = .returned (.agg T) ∧ Below w.heap.size w w' := by
  rw [← hT]
  exact sumTable_any w

/-- the array is laid into a variable of its own, made last -/
theorem store_last (T : Array Value) (hs : T.size = 256) (h1 : T.all (·.oneCell') = true) (w : World) :
    (storeCells ⟨w.heap.size, 0, none⟩ T.toList 0).run Try.prog (w.alloc (.cells (Array.replicate 256 (.int .u32 0)) 45)) = .ok () (w.alloc (.cells T 45)) :=
  run_storeCells_new (P := Try.prog) w 45 (Array.replicate 256 (.int .u32 0)) T (by rw [hs]; exact (zero_of_info Try.infoTab).2) (by simp [hs]) h1
theorem step_table (z c : Nat) (hc : c < 256) : stN 8 ((z % 256) ^^^ c) ^^^ (z / 256) = stN 8 (z ^^^ c) := by
  rw [st8_table (z ^^^ c), xor_div256 z c hc, xor_mod256 z c hc]

set_option maxHeartbeats 1000000 in
set_option maxRecDepth 100000 in
theorem implTSum_any (s : Int) (t : ByteArray) (w : World) (hm : t.size ≤ 1048576) :
    Calls Try.prog 18 #[.int .i64 s, .string t] w fun e w' => e = .returned (.int .i64 ((more s t : Nat) : Int)) ∧ Below w.heap.size w w' := by
  have ws := (IntKind.wrap_u32 s).trans (low_eq s)
  have l1 := low_lt s
  have hx := xor_u32 (low s) 4294967295 l1 (by decide)
  obtain ⟨y, hy⟩ : ∃ y, low s ^^^ 4294967295 = y := ⟨_, rfl⟩
  have hy32 : y < 4294967296 := by rw [← hy]; exact xor_lt l1 (by decide)
  rw [hy] at hx
  have HY := Lib.hid hy
  have HX := Lib.hid hx
  have hx2 : bits BinOp.xor IntKind.u32 (low s : Int) 4294967295 = (y : Int) := HX.out
  have hz := (zero_of_info Try.infoTab).1
  obtain ⟨T, hT⟩ : ∃ T, tcells 256 = T := ⟨_, rfl⟩
  have HN := Lib.hid hT
  have hsz := tcells_size 256
  have h1 := tcells_one 256
  rw [hT] at hsz h1
  have HSt := Lib.hid (fun w => store_last T hsz h1 w)
  have HAt := Lib.hid (fun (j : Nat) (h : j < 256) => (by rw [← hT]; exact tab_at j h : T[j]? = some (.int .u32 ((stN 8 j : Nat) : Int))))
  clear hy l1 hx hT h1
  go_enter Try.func18, Try.ntmps18
  go_wp2_with (go_at_call 33; refine (sumTable_named T HN.out _).mono ?_; rintro e w1 ⟨rfl, hb⟩)
  rw [HSt.out, Result.andThen_ok, Oper.upon_skip]
  go_wp2
  clear ws hx2 hz
  go_loopw [6, 14] (fun x i wr => ∃ k z : Nat, k ≤ t.size ∧ i = .int .i64 k ∧ x = .int .u32 z ∧ F y (t.data.toList.take k) = z ∧ w1.alloc (.cells T 45) = wr) (fun _ i _ => t.size - (intOf i).toNat)
  case atStart => exact ⟨0, y, Nat.zero_le _, rfl, rfl, rfl, rfl⟩
  case round =>
    obtain ⟨k, z, hk, rfl, rfl, hzf, rfl⟩ := hrel
    have hz32 : z < 4294967296 := by rw [← hzf]; exact F_lt _ _ hy32
    have HZ := Lib.hid hzf
    clear hzf
    by_cases hlt : k < t.size
    · have hc : t[k].toNat < 256 := t[k].toNat_lt
      have HT := Lib.hid (take_step t k hlt)
      have hw8 : IntKind.u8.wrap (z : Int) = ((z % 256 : Nat) : Int) := by rw [IntKind.wrap_u8]; omega
      obtain ⟨q, hq⟩ : ∃ q, z % 256 = q := ⟨_, rfl⟩
      have hq256 : q < 256 := by omega
      have hx1 := xor_u8 q t[k].toNat hq256 hc
      obtain ⟨j, hj⟩ : ∃ j, q ^^^ t[k].toNat = j := ⟨_, rfl⟩
      have hj256 : j < 256 := by rw [← hj]; exact xor8_lt hq256 hc
      have hst := step_table z t[k].toNat hc
      rw [hq] at hw8 hst
      rw [hj] at hx1 hst
      obtain ⟨v, hv⟩ : ∃ v, stN 8 (z ^^^ t[k].toNat) = v := ⟨_, rfl⟩
      rw [hv] at hst
      have HV := Lib.hid hv
      obtain ⟨hjT, hcell⟩ := Array.getElem?_eq_some_iff.1 (HAt.out j hj256)
      have hx3 := xor_u32 (stN 8 j) (z / 256) (stN_lt (by omega) 8) (by omega)
      rw [hst, show ((z / 256 : Nat) : Int) = (z : Int) / 256 by omega] at hx3
      have hj0 : (j : Int) < 256 := by omega
      clear hv hst hq hj
      go_wp2
      go_roundw
      case rel => exact ⟨k + 1, v, by omega, by go_num, by go_num, by rw [HT.out, F_snoc, HZ.out, HV.out], trivial⟩
      case measure => simp [intOf]; omega
    · obtain rfl : k = t.size := by omega
      have HT := Lib.hid (show t.data.toList.take t.size = t.data.toList from List.take_of_length_le (Nat.le_refl _))
      have hx3 := xor_u32 z 4294967295 hz32 (by decide)
      have hl3 := xor_lt hz32 (show 4294967295 < 4294967296 by decide)
      have HE := Lib.hid (show more s t = z ^^^ 4294967295 by
        unfold more sumMore
        rw [HY.out, ← HZ.out, HT.out])
      have hw3 : IntKind.i64.wrap ((z ^^^ 4294967295 : Nat) : Int) = ((z ^^^ 4294967295 : Nat) : Int) := wrap_in _ (by omega)
      obtain ⟨r, hr⟩ : ∃ r, z ^^^ 4294967295 = r := ⟨_, rfl⟩
      rw [hr] at hx3 hw3
      have HR := Lib.hid hr
      have HX3 := Lib.hid hx3
      have hx4 : bits BinOp.xor IntKind.u32 (z : Int) 4294967295 = (r : Int) := HX3.out
      clear hx3 hl3 hr
      go_wp2
      go_ret
      exact ⟨by rw [HE.out, HR.out]; rfl, hb.alloc hb.size _⟩

end Go.Proofs.Ytkhkohbgiipbbaa.sum
