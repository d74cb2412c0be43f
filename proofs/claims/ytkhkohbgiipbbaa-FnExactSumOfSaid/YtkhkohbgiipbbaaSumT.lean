/-
  Contracts of impl's table of 256 sums (an array, by value, made in a function), of impl.TableAt and of impl.TableSum.
-/
import Derived.Test.YtkhkohbgiipbbaaSumI
import Derived.Deep.WholeRow
import Derived.Deep.MidRow
namespace Go.Proofs.Ytkhkohbgiipbbaa.sum
open Go.RowKit
open kit

theorem Try.infoTab : (Try.prog.info? 45).map (fun i => (i.zero, i.size)) = some (some (.agg (Array.replicate 256 (.int .u32 0))), 256) := by kernel_rfl

/-- the table after n rounds -/
def tcell (n j : Nat) : Value := .int .u32 (if j < n then ((sumByte 0 (j : Int) : Nat) : Int) else 0)
def tcells (n : Nat) : Array Value := ((List.range 256).map (tcell n)).toArray
theorem tcells_size (n : Nat) : (tcells n).size = 256 := by simp [tcells]
theorem tcells_at (n j : Nat) (h : j < 256) : (tcells n)[j]? = some (tcell n j) := by
  simp [tcells, h]
theorem tcells_zero : tcells 0 = Array.replicate 256 (.int .u32 0) := by
  apply Array.ext_getElem?
  intro i
  by_cases h : i < 256
  · rw [tcells_at 0 i h, Array.getElem?_replicate, if_pos h]
    rfl
  · rw [Array.getElem?_eq_none (by rw [tcells_size]; omega), Array.getElem?_eq_none (by simp; omega)]
theorem tcells_set (n : Nat) (h : n < 256) : (tcells n).setIfInBounds n (.int .u32 ((sumByte 0 (n : Int) : Nat) : Int)) = tcells (n + 1) := by
  apply Array.ext_getElem?
  intro i
  by_cases hi : i < 256
  · rw [Array.getElem?_setIfInBounds, tcells_at _ i hi, tcells_at _ i hi, tcells_size]
    unfold tcell
    by_cases hn : n = i
    · subst hn
      rw [if_pos rfl, if_pos h, if_pos (by omega)]
    · rw [if_neg hn]
      by_cases hl : i < n
      · rw [if_pos hl, if_pos (by omega)]
      · rw [if_neg hl, if_neg (by omega)]
  · rw [Array.getElem?_eq_none (by rw [Array.size_setIfInBounds, tcells_size]; omega), Array.getElem?_eq_none (by rw [tcells_size]; omega)]
theorem tcells_one (n : Nat) : (tcells n).all (·.oneCell') = true := by
  rw [Array.all_eq_true_iff_forall_mem]
  intro v hv
  simp only [tcells, List.mem_toArray, List.mem_map] at hv
  obtain ⟨j, _, rfl⟩ := hv
  rfl

theorem setRow_prev (w : World) (c c' : Array Value) (t : TypeId) (o : Obj) : ((w.alloc (.cells c t)).alloc o).setRow w.heap.size c' = (w.alloc (.cells c' t)).alloc o := by
  simp only [World.setRow, World.alloc]
  congr 1
  apply Array.ext_getElem?
  intro i
  rw [Array.getElem?_modify]
  by_cases h : w.heap.size = i
  · subst h
    simp [Array.getElem?_push]
  · have h' : ¬ i = w.heap.size := fun e => h e.symm
    simp [h, h', Array.getElem?_push]

theorem heap_prev (w : World) (o o' : Obj) : ((w.alloc o).alloc o').heap[w.heap.size]? = some o := by
  show ((w.heap.push o).push o')[w.heap.size]? = some o
  simp [Array.getElem?_push]

theorem heap_last2 (w : World) (o o' : Obj) : ((w.alloc o).alloc o').heap[w.heap.size + 1]? = some o' := by
  show ((w.heap.push o).push o')[w.heap.size + 1]? = some o'
  rw [← Array.size_push o]
  exact Array.getElem?_push_size

theorem tab_info (n : Nat) : (Try.prog.info? 45).map (·.size) = some (tcells n).size := by rw [tcells_size]; exact (zero_of_info Try.infoTab).2
theorem store_prev (w : World) : (storeCells ⟨w.heap.size, 0, none⟩ (tcells 256).toList 0).run Try.prog ((w.alloc (.cells (tcells 0) 45)).alloc (.cells (tcells 256) 45)) = .ok () ((w.alloc (.cells (tcells 256) 45)).alloc (.cells (tcells 256) 45)) := by
  have h := run_storeVar_row (P := Try.prog) _ w.heap.size 45 45 (tcells 0) (tcells 256) (heap_prev w (.cells (tcells 0) 45) (.cells (tcells 256) 45)) (tab_info 256) (by rw [tcells_size, tcells_size]) (tcells_one _)
  rw [setRow_prev] at h
  have hi := tab_info 256
  cases hq : Try.prog.info? 45 with
  | none => simp [hq] at hi
  | some i =>
    have hs : (tcells 256).size = i.size := by simp [hq] at hi; omega
    simpa [storeVar, sizeOf, typeInfo, hq, Value.cells, hs] using h

/-- the table is answered, and nothing of what was there turns -/
def PostTab (w : World) (e : Ending) (w' : World) : Prop := e = .returned (.agg (tcells 256)) ∧ Below w.heap.size w w'

theorem tabAt_byte (j : Nat) (h : j < 256) : tabAt (j : Int) = sumByte 0 (j : Int) := by
  unfold tabAt
  rw [if_pos (by omega)]
  have e := sumByte_nat 0 j (by decide) h
  rw [Nat.zero_xor] at e
  rw [show ((0 : Nat) : Int) = 0 from rfl] at e
  rw [e]
  rfl
theorem implAt_any (i : Int) (w : World) :
    Calls Try.prog 19 #[.int .i64 i] w fun e w' => e = .returned (.int .i64 ((tabAt i : Nat) : Int)) ∧ w = w' := by
  by_cases h : 0 ≤ i ∧ i ≤ 255
  · obtain ⟨j, rfl⟩ := Int.eq_ofNat_of_zero_le h.1
    have HT := Lib.hid (tabAt_byte j (by omega))
    have h0 : ¬ (j : Int) < 0 := by omega
    have h1 : ¬ (255 : Int) < (j : Int) := by omega
    clear h
    go_enter Try.func19, Try.ntmps19
    go_wp2_with (go_at_call 16; refine (implByte_any _ _ _).mono ?_; rintro e w' ⟨rfl, rfl⟩)
    go_ret
    exact ⟨by rw [HT.out]; rfl, rfl⟩
  · have HE := Lib.hid (show tabAt i = 0 from if_neg h)
    by_cases h0 : i < 0
    · clear h
      go_enter Try.func19, Try.ntmps19
      go_wp2
      go_ret
      exact ⟨by rw [HE.out]; rfl, rfl⟩
    · have h1 : (255 : Int) < i := by omega
      clear h
      go_enter Try.func19, Try.ntmps19
      go_wp2
      go_ret
      exact ⟨by rw [HE.out]; rfl, rfl⟩

set_option maxHeartbeats 1000000 in
set_option maxRecDepth 1000000 in
theorem sumTable_any (w : World) : Calls Try.prog 33 #[] w (PostTab w) := by
  have hz := (zero_of_info Try.infoTab).1
  go_enter Try.func33, Try.ntmps33
  go_wp2
  clear hz
  rw [← tcells_zero]
  go_loopw [3] (fun i wr => ∃ k : Nat, k ≤ 256 ∧ i = .int .i64 k ∧ wr = (w.alloc (.cells (tcells 0) 45)).alloc (.cells (tcells k) 45)) (fun i _ => 256 - (intOf i).toNat)
  case atStart => exact ⟨0, by omega, rfl, rfl⟩
  case round =>
    obtain ⟨k, hk, rfl, rfl⟩ := hrel
    by_cases hlt : k < 256
    · have HS := Lib.hid (tcells_set k hlt)
      have hks : k < (tcells k).size := by rw [tcells_size]; exact hlt
      have HB := Lib.hid (tabAt_byte k hlt)
      have hcv : IntKind.u32.wrap ((sumByte 0 (k : Int) : Nat) : Int) = ((sumByte 0 (k : Int) : Nat) : Int) := by
        have := sumByte_lt 0 (k : Int)
        rw [IntKind.wrap_u32]; omega
      go_wp2_with (go_at_call 19; refine (implAt_any _ _).mono ?_; rw [HB.out]; rintro e w' ⟨rfl, rfl⟩)
      go_roundw
      case rel => exact ⟨k + 1, by omega, by go_num, by rw [← HS.out]⟩
      case measure => simp [intOf]; omega
    · obtain rfl : k = 256 := by omega
      clear hk hlt
      go_wp2
      refine wp_load_row 45 (.tmp 1) rfl (w.heap.size + 1) (by rfl) 45 (tcells 256) (0, 0) _ (heap_last2 _ _ _) Try.underlying45 rfl (tab_info 256) ?_
      go_wp2
      rw [store_prev w, Result.andThen_ok, Oper.upon_skip]
      go_wp2
      (try simp only [Exit.inBlock, Exit.then])
      refine bodyPost_ret (results_cell_row rfl _ _ w.heap.size 45 (tcells 256) (0, 0) _ rfl (heap_prev _ _ _) Try.underlying45 rfl (tab_info 256)) rfl ?_
      exact ⟨rfl, ((Below.refl _ _).alloc (Nat.le_refl _) _).alloc (by simp) _⟩

end Go.Proofs.Ytkhkohbgiipbbaa.sum
