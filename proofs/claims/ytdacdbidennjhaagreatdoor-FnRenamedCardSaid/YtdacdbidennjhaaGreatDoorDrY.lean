/-
  The landed program's set of the numbers that some name stands for: addIds, namedIds.
-/
import Derived.Test.YtdacdbidennjhaaGreatDoorDrX
import Derived.Test.YtdacdbidennjhaaGreatDoorIkX
import Derived.Laws.IdiomCopy
namespace Go.Proofs.YtdacdbidennjhaaGreatDoor.ik
open Go.RowKit Go.Maps Go.WideMaps
open kit strs recs disk deed

/-- block b is a map that says true of the numbers of which f does -/
def MapI (w : World) (b n : Nat) (f : Int → Bool) : Prop := ∃ D : DataW Unit, w.ownsMap Tryz.prog 3 (plainElem Tryz.prog 4) b n D ∧ RepI D f
theorem MapI.kept {w w' : World} {b n : Nat} {f : Int → Bool} {row : Option Nat} (h : MapI w b n f) (hg : w.grownBy w' row) (hne : some b ≠ row) : MapI w' b n f := by
  obtain ⟨D, ho, hr⟩ := h
  exact ⟨D, ho.kept hg hne, hr⟩
theorem MapI.below {w w' : World} {b n : Nat} {f : Int → Bool} (h : MapI w b n f) (hb : Below w.heap.size w w') : MapI w' b n f := h.kept (row := none) (grown_of_below hb) (by simp)
theorem MapI.lt {w : World} {b n : Nat} {f : Int → Bool} (h : MapI w b n f) : b < w.heap.size := by
  obtain ⟨D, ho, _⟩ := h
  exact ho.lt
theorem MapI.mono {w : World} {b n n' : Nat} {f : Int → Bool} (h : MapI w b n f) (hn : n ≤ n') : MapI w b n' f := by
  obtain ⟨D, ho, hr⟩ := h
  exact ⟨D, ho.mono hn, hr⟩
theorem MapI.look {w : World} {b n : Nat} {f : Int → Bool} (h : MapI w b n f) {i : Int} (hi : (Lit.int .i64 i).wf = true) :
    (Instr.lookup 150 (.map (some b)) (.int .i64 i) false).run Tryz.prog w = .ok (.bool (f i)) w := by
  obtain ⟨D, ho, hr⟩ := h
  obtain ⟨v, ps, hrun, hv⟩ := ho.lookup lawI Tryz.underlying150 (zB _) (plainElem_bool Tryz.underlying4 false) (keyOf_int_mk Tryz.underlying3 hi)
  obtain ⟨c, rfl, hc⟩ := plainElem_bool_inv Tryz.underlying4 hv
  have hat := congrArg Prod.fst hc
  simp only [] at hat
  rw [hr.2] at hat
  have hc : f i = c := by
    cases e : f i with
    | false => rw [e] at hat; simpa using hat
    | true => rw [e] at hat; simpa using hat
  rw [hc]
  exact hrun
theorem grown_more {x y z : World} {row : Option Nat} (h : x.grownBy y row) (k : y.grownBy z row) : x.grownBy z row := h.andThen k fun _ e => .inr e

set_option maxHeartbeats 1000000 in
set_option maxRecDepth 100000 in
theorem implAddIds (b n bI m : Nat) (l : List Ent) (f : Int → Bool) (w : World) (h : MapE w b n l) (hI : MapI w bI m f) (hne : b ≠ bI) (hm : m + l.length ≤ 1000000000) :
    Calls Tryz.prog 186 #[.map (some bI), .map (some b)] w fun e w' => (∃ v, e = .returned v) ∧ MapI w' bI (m + l.length) (idsIn l f) ∧ w.grownBy w' (some bI) := by
  obtain ⟨D, ho, hr, hs⟩ := h
  have hsz := hr.size hs ho lawS Tryz.underlying9
  have HR := Lib.hid hr
  have HS := Lib.hid hs
  have HI := Lib.hid hI
  have hlI := hI.lt
  have hl := ho.lt
  clear hr hs hI
  go_enter Tryz.func186, Tryz.ntmps186
  go_wp2_with (at_range; refine wpList_range_own _ rfl _ 94 rfl 9 3 lawS Tryz.underlying94 _ b n D rfl ho ?_; intro w0 hrg0 hg0 hs0)
  try go_frame
  go_loopw [5] (fun _ wr => ∃ (left : Lit → Bool) (cnt : Nat) (g : Int → Bool), wr.ranges Tryz.prog 9 (plainElem Tryz.prog 3) b w.heap.size n D left cnt ∧ cnt ≤ l.length ∧ Got D left l f g ∧ MapI wr bI (m + (l.length - cnt)) g ∧ w.grownBy wr (some bI)) (fun _ wr => wr.rangeLeft b w.heap.size)
  case atStart => exact ⟨_, _, f, hrg0, by rw [← hsz]; exact Nat.le_refl _, Got.start D l f, (HI.out.kept hg0 (by simp)).mono (Nat.le_add_right _ _), hg0.but _⟩
  case round =>
    clear hrg0 hg0 hs0
    obtain ⟨left, cnt, g, hrg, hcs, hgot, hmi, hgr⟩ := hrel
    go_wp2_with (at_next; refine wpList_next_ranges _ rfl _ rfl 9 lawS (plainElem Tryz.prog 3) Value.string (Value.int .i64) str_key int_val b w.heap.size n D left cnt rfl hrg ?_ ?_)
    · intro hc0 hl0
      have HE := Lib.hid (hgot.end_ HR.out HS.out hl0)
      go_wp2
      go_end0
      subst hc0
      exact ⟨⟨_, rfl⟩, by rw [← HE.out]; simpa using hmi, hgr⟩
    · intro x c kl y1 y2 w1 cnt1 hkey hlk hv hat hrg1 hlt1 hg1 hs1 hen
      obtain ⟨hy, hwf⟩ := val_is hv
      obtain rfl := key_is hkey
      have hat2 : ∀ z, D.atKey (keyL x) z = .lit (.int .i64 c) := fun z => (hat z).trans hy
      have hmi1 := hmi.kept hg1 (by simp; omega)
      have HG := Lib.hid (hgot.step HR.out hat2)
      have hgr1 := hgr.andThen hg1 (fun j e => by cases e; exact .inl (Nat.le_refl _))
      have HGR := Lib.hid hgr1
      have hz1 := hgr1.size
      obtain ⟨DI, hoI, hrI⟩ := hmi1
      have HRI := Lib.hid hrI
      have HL := Lib.hid (show w1.rangeLeft b w.heap.size < wr.rangeLeft b w.heap.size by rw [hrg1.left_eq, hrg.left_eq]; exact hlt1)
      clear hat hat2 hv hkey hgot hgr hgr1 hrI hrg hmi
      go_wp2_with (at_mapUpdate; refine wpList_mapUpdate_own _ rfl _ _ _ 150 rfl 3 4 lawI Tryz.underlying150 _ bI (m + (l.length - cnt)) DI rfl hoI (by unfold maxLen; omega) _ _ _ rfl rfl (keyOf_int_mk Tryz.underlying3 hwf) _ [] (plainElem_bool Tryz.underlying4 true) ?_; intro w4 hown4 hgrow4; go_frame)
      have hrg4 := hrg1.kept hgrow4 (fun e => hne (Option.some.inj e)) (fun e => by have := Option.some.inj e; omega)
      have HM := Lib.hid (show w4.rangeLeft b w.heap.size < wr.rangeLeft b w.heap.size by rw [hrg4.left_eq]; have := HL.out; rw [hrg1.left_eq] at this; exact this)
      go_roundw
      case rel => exact ⟨_, cnt1, _, hrg4, by omega, HG.out, ⟨_, hown4.mono (by omega), HRI.out.put c⟩, grown_more HGR.out hgrow4⟩
      case measure => exact HM.out

theorem steps_len {old l : List Ent} {st : List ByteArray} {k : Nat} (h : stepsTo old (st.take k) = some l) : l.length ≤ old.length + k := by
  have h1 := stepsTo_length _ _ _ h
  rw [List.length_take] at h1
  omega

set_option maxHeartbeats 4000000 in
set_option maxRecDepth 100000 in
theorem implNamed (a b : Option Addr) (n c m e : Nat) (old : List Ent) (st : List ByteArray) (w : World) (hm : m ≤ 2000000) (hz : ∀ s ∈ st, s.size ≤ 1048576) (ha : AtE w a n old) (hb : strs.At w b m st) (hw : recs.wfE old) (hall : AllSteps old st) (hg : GD w) :
    Calls Tryz.prog 171 #[.slice a n c, .slice b m e] w fun e w' => ∃ bI q, e = .returned (.map (some bI)) ∧ MapI w' bI q (namedK old st st.length) ∧ w.heap.size ≤ bI ∧ Below w.heap.size w w' := by
  have hsrt : Srt old ∧ Nok old ∧ old.length ≤ 16 := by
    obtain ⟨l, h1, h2⟩ := hall 0 (Nat.zero_le _)
    rw [List.take_zero, stepsTo] at h1
    cases h1
    exact h2
  have hmm := @run_makeMap Tryz.prog
  have HA := Lib.hid ha
  have HB := Lib.hid hb
  have HZ := Lib.hid hz
  have HALL := Lib.hid hall
  have HG := Lib.hid hg
  have HW := Lib.hid hw
  have HS := Lib.hid hsrt
  have hal := ha.len
  have hbl := hb.1
  have hn : n ≤ 16 := by rw [← hal]; exact hsrt.2.2
  clear ha hb hz hall hg hw hsrt
  obtain ⟨W, hW⟩ : ∃ W, W = w.alloc (.map #[] 0) := ⟨_, rfl⟩
  have HWB := Lib.hid (show Below w.heap.size w W by rw [hW]; exact (Below.refl _ _).alloc (Nat.le_refl _) _)
  have HI := Lib.hid (show MapI W w.heap.size 0 (fun _ => false) by rw [hW]; exact ⟨_, World.ownsMap_made _ _ _ _, RepI.empty⟩)
  have hzW : W.heap.size = w.heap.size + 1 := by rw [hW]; simp
  go_enter Tryz.func171, Tryz.ntmps171
  go_wp2_with (fail)
  rw [← hW]
  clear hW
  refine (implNames a c n old W (by omega) (HA.out.below HWB.out) HW.out HS.out.1).mono ?_
  rintro e1 w1 ⟨b1, rfl, hm1, hlo, hb1⟩
  have HI1 := Lib.hid (HI.out.below hb1)
  have HB1 := Lib.hid (HWB.out.trans (hb1.mono HWB.out.size))
  have HM1 := Lib.hid hm1
  have hn1 : b1 ≠ w.heap.size := by omega
  have hz1 := hb1.size
  clear hb1 hm1
  go_wp2_with (fail)
  refine (implAddIds b1 n w.heap.size 0 old (fun _ => false) w1 HM1.out HI1.out hn1 (by omega)).mono ?_
  rintro e2 w2 ⟨⟨v2, rfl⟩, hi2, hg2⟩
  have HI2 := Lib.hid (show MapI w2 w.heap.size (n + 0) (namedK old st 0) by rw [named_zero]; exact hi2.mono (by omega))
  have HM2 := Lib.hid (HM1.out.kept hg2 (fun e => hn1 (Option.some.inj e)))
  have HB2 := Lib.hid (HB1.out.grown hg2 HB1.out.size (fun j e => by cases e; exact Nat.le_refl _))
  have hz2 := hg2.size
  clear hi2 hg2
  go_wp2
  go_loopw [8, 17] (fun _ i wr => ∃ (k : Nat) (l : List Ent), k ≤ m ∧ i = .int .i64 k ∧ Hid (stepsTo old (st.take k) = some l) ∧ MapE wr b1 (n + k) l ∧ MapI wr w.heap.size (16 * (k + 1)) (namedK old st k) ∧ Below w.heap.size w wr) (fun _ i _ => m - (intOf i).toNat)
  case atStart => exact ⟨0, old, Nat.zero_le _, rfl, Lib.hid rfl, HM2.out, HI2.out.mono (by omega), HB2.out⟩
  case round =>
    obtain ⟨k, l, hk, rfl, hf, hmk, hik, hbk⟩ := hrel
    by_cases hlt : k < m
    · obtain ⟨s, g, o, hx, rfl, hg, c1⟩ := strAt (HB.out.below hbk) hlt
      have hss := HZ.out s (List.mem_of_getElem? hx)
      obtain ⟨l', hd, hl'⟩ := HALL.out.step hx hf.out
      have hlen := steps_len hf.out
      have hlen' := steps_len hl'
      obtain ⟨lk, e1, _, hnk, _⟩ := HALL.out k (by omega)
      rw [hf.out] at e1
      cases e1
      obtain ⟨lk', e2, _, _, h16⟩ := HALL.out (k + 1) (by omega)
      rw [hl'] at e2
      cases e2
      have HD := Lib.hid hd
      have HL' := Lib.hid hl'
      have j0 : (0 : Int) ≤ (k : Int) := by omega
      have j1 : (k : Int) < (m : Int) := by omega
      have HMK := Lib.hid hmk
      have HIK := Lib.hid hik
      have HBK := Lib.hid hbk
      have HNK := Lib.hid hnk
      have hzk := hbk.size
      clear hx hd hl' hmk hik hbk hnk hf
      go_wp2_with (fail)
      refine (implStep b1 (n + k) l s wr hss (by omega) HMK.out HNK.out (HG.out.below HBK.out)).mono ?_
      rw [HD.out]
      rintro e3 w3 ⟨rfl, hm3, hg3⟩
      have HM3 := Lib.hid (show MapE w3 b1 (n + k + 1) l' from hm3)
      have HI3 := Lib.hid (HIK.out.kept hg3 (fun e => hn1 (Option.some.inj e).symm))
      have HB3 := Lib.hid (HBK.out.grown hg3 HBK.out.size (fun j e => by cases e; omega))
      have hz3 := hg3.size
      clear hm3 hg3
      go_wp2_with (fail)
      refine (implAddIds b1 (n + k + 1) w.heap.size (16 * (k + 1)) l' (namedK old st k) w3 HM3.out HI3.out hn1 (by omega)).mono ?_
      rintro e4 w4 ⟨⟨v4, rfl⟩, hi4, hg4⟩
      have HI4 := Lib.hid (show MapI w4 w.heap.size (16 * (k + 1 + 1)) (namedK old st (k + 1)) by rw [named_next HL'.out]; exact hi4.mono (by omega))
      have HM4 := Lib.hid (HM3.out.kept hg4 (fun e => hn1 (Option.some.inj e)))
      have HB4 := Lib.hid (HB3.out.grown hg4 HB3.out.size (fun j e => by cases e; exact Nat.le_refl _))
      clear hi4 hg4
      go_wp2
      go_roundw
      case rel => exact ⟨k + 1, l', by omega, by go_num, HL', HM4.out, HI4.out, HB4.out⟩
      case measure => simp [intOf]; omega
    · obtain rfl : k = m := by omega
      go_wp2
      go_ret
      exact ⟨_, _, rfl, by rw [hbl]; exact hik, Nat.le_refl _, hbk⟩

end Go.Proofs.YtdacdbidennjhaaGreatDoor.ik

namespace Go.Proofs.YtdacdbidennjhaaGreatDoor.ik
open Go.RowKit Go.Maps Go.WideMaps
open kit strs recs disk deed

/-! ### rows cut short -/
def setL : List Value → Nat → List Value → List Value
  | xs, _, [] => xs
  | xs, k, v :: r => setL (xs.set k v) (k + 1) r
theorem setL_take : ∀ (vs xs : List Value) (k m : Nat), m ≤ k → (setL xs k vs).take m = xs.take m
  | [], _, _, _, _ => rfl
  | v :: r, xs, k, m, h => by
    rw [setL, setL_take r _ _ _ (by omega)]
    apply List.ext_getElem?
    intro j
    rw [List.getElem?_take, List.getElem?_take]
    split
    · rw [List.getElem?_set_ne (by omega)]
    · rfl
theorem own_setCells {B n c g : Nat} {e : TypeId} {size : Nat} : ∀ (vs : List Value) (k : Nat) (w : World) (xs : List Value), w.ownsRow B e size (.slice (some ⟨g, 0, none⟩) n c) n xs →
    (w.setCells g k vs).ownsRow B e size (.slice (some ⟨g, 0, none⟩) n c) n (setL xs k vs) ∧ w.grownBy (w.setCells g k vs) (some g)
  | [], _, w, _, h => ⟨h, grown_refl _ _⟩
  | v :: r, k, w, xs, h => by
    obtain ⟨h1, h2⟩ := h.stored k v
    obtain ⟨h3, h4⟩ := own_setCells r (k + 1) _ _ h1
    exact ⟨h3, grown_more h2 h4⟩
theorem own_shrink {B n c g i : Nat} {e : TypeId} {size : Nat} {w : World} {xs : List Value} (h : w.ownsRow B e size (.slice (some ⟨g, 0, none⟩) n c) n xs) (hi : i ≤ n) :
    w.ownsRow B e size (.slice (some ⟨g, 0, none⟩) i c) i (xs.take (i * size)) := by
  have h1 := h.1
  have hle : i * size ≤ n * size := Nat.mul_le_mul_right _ hi
  rcases h.2 with ⟨h', _⟩ | ⟨g', cap', cur, h', hb, hg, hnc, hcm, hcs, htake⟩
  · simp at h'
  · simp only [Value.slice.injEq, Option.some.injEq, Addr.mk.injEq, and_true, true_and] at h'
    obtain ⟨rfl, rfl⟩ := h'
    refine ⟨by rw [List.length_take]; omega, .inr ⟨g, c, cur, rfl, hb, hg, by omega, hcm, hcs, ?_⟩⟩
    rw [← htake, List.take_take, Nat.min_eq_left hle]
theorem run_clear_any {P : Program} (w : World) (t e ty : TypeId) (z : Value) (ht : P.underlying t = some (.slice e)) (hv : ∀ w, (zeroValue e).run P w = .ok z w) (b k n c : Nat) (hn : 0 < n)
    (hc : ∀ j, j < (Builtin.zeroCells z.cells n).toList.length → (w.cell? ⟨b, k + j, none⟩).isSome = true) (hf : ∀ j, w.frozen? ⟨b, k + j, none⟩ = false) (h1 : ∀ v ∈ (Builtin.zeroCells z.cells n).toList, v.oneCell' = true) :
    (Builtin.clear_ #[t] ty #[.slice (some ⟨b, k, none⟩) n c]).run P w = .ok (.tuple #[]) (w.setCells b k (Builtin.zeroCells z.cells n).toList) := by
  have hst := run_storeCells_cells (P := P) b k (Builtin.zeroCells z.cells n).toList 0 w (by simpa using hc) (fun j _ => by simp [hf j]) h1
  simp only [Nat.add_zero] at hst
  obtain ⟨m, rfl⟩ : ∃ m, n = m + 1 := ⟨n - 1, by omega⟩
  simp [Builtin.clear_, run_underlying ht, hv, hst]
theorem zero_one {z : Value} {n : Nat} (h : ∀ v ∈ z.cells, v.oneCell' = true) : ∀ v ∈ (Builtin.zeroCells z.cells n).toList, v.oneCell' = true := by
  intro v hv
  unfold Builtin.zeroCells at hv
  simp only [Array.toList_map, List.mem_map] at hv
  obtain ⟨i, hi, rfl⟩ := hv
  by_cases h0 : z.cells.size = 0
  · simp [h0] at hi
  · have hlt := Nat.mod_lt i (Nat.pos_of_ne_zero h0)
    rw [getElem!_pos z.cells (i % z.cells.size) hlt]
    exact h _ (Array.getElem_mem hlt)
theorem zero_len (z : Value) (n : Nat) : (Builtin.zeroCells z.cells n).toList.length = n * z.cells.size := by simp [Builtin.zeroCells]
theorem own_cell {B n c g j : Nat} {e : TypeId} {size : Nat} {w : World} {xs : List Value} (h : w.ownsRow B e size (.slice (some ⟨g, 0, none⟩) n c) n xs) (hj : j < n * size) : (w.cell? ⟨g, j, none⟩).isSome = true := by
  have hx : xs[j]? = some (xs[j]'(by rw [h.1]; exact hj)) := List.getElem?_eq_getElem _
  have := (own_cells h).2
  rcases this with h0 | ⟨b, off, hb, _, hc⟩
  · subst h0; simp at hj
  · simp only [Option.some.injEq, Addr.mk.injEq, and_true] at hb
    obtain ⟨rfl, rfl⟩ := hb
    have := hc j _ hx
    rw [Nat.zero_add] at this
    rw [this]
    rfl

/-! ### the first one that is struck -/
def ixOf {α : Type} (p : α → Bool) : List α → Option Nat
  | [] => none
  | x :: r => if p x = true then some 0 else (ixOf p r).map (· + 1)
theorem ixOf_yes {α : Type} {p : α → Bool} {xs : List α} {x : α} {k : Nat} (h : xs[k]? = some x) (e : p x = true) : ixOf p (xs.drop k) = some 0 := by rw [drop_cons h]; simp [ixOf, e]
theorem ixOf_no {α : Type} {p : α → Bool} {xs : List α} {x : α} {k : Nat} (h : xs[k]? = some x) (e : p x = false) : ixOf p (xs.drop k) = (ixOf p (xs.drop (k + 1))).map (· + 1) := by rw [drop_cons h]; simp [ixOf, e]
theorem ixOf_none {α : Type} {p : α → Bool} : ∀ {xs : List α}, ixOf p xs = none → xs.filter (fun x => !p x) = xs
  | [], _ => rfl
  | x :: r, h => by
    unfold ixOf at h
    cases hp : p x with
    | true => rw [hp] at h; cases h
    | false =>
      rw [hp] at h
      rw [List.filter_cons, if_pos (by simp [hp]), ixOf_none (by simpa using h)]
theorem ixOf_some {α : Type} {p : α → Bool} : ∀ {xs : List α} {k : Nat}, ixOf p xs = some k → k < xs.length ∧ (xs.take (k + 1)).filter (fun x => !p x) = xs.take k
  | [], k, h => by cases h
  | x :: r, k, h => by
    unfold ixOf at h
    cases hp : p x with
    | true =>
      rw [hp] at h
      simp only [if_true, Option.some.injEq] at h
      subst h
      simp [hp]
    | false =>
      rw [hp] at h
      cases hr : ixOf p r with
      | none => rw [hr] at h; cases h
      | some j =>
        rw [hr] at h
        simp only [Bool.false_eq_true, if_false, Option.map_some, Option.some.injEq] at h
        subst h
        obtain ⟨h1, h2⟩ := ixOf_some hr
        refine ⟨by simpa using h1, ?_⟩
        rw [List.take_succ_cons, List.take_succ_cons, List.filter_cons, if_pos (by simp [hp]), h2]
theorem take_set_same {α : Type} {ys : List α} {i : Nat} {v : α} (h : i < ys.length) : (ys.set i v).take (i + 1) = ys.take i ++ [v] := by
  rw [List.take_add_one, List.getElem?_set_self h]
  congr 1
  apply List.ext_getElem?
  intro j
  rw [List.getElem?_take, List.getElem?_take]
  split
  · rw [List.getElem?_set_ne (by omega)]
  · rfl
theorem drop_set_ahead {α : Type} {ys : List α} {i j : Nat} {v : α} (h : i < j) : (ys.set i v).drop j = ys.drop j := by
  apply List.ext_getElem?
  intro k
  rw [List.getElem?_drop, List.getElem?_drop, List.getElem?_set_ne (by omega)]
theorem at_drop {α : Type} {xs ys : List α} {j : Nat} (h : ys.drop j = xs.drop j) : ys[j]? = xs[j]? := by
  have := congrArg (fun l : List α => l[0]?) h
  simpa using this
theorem drop_next {α : Type} {xs ys : List α} {j : Nat} (h : ys.drop j = xs.drop j) : ys.drop (j + 1) = xs.drop (j + 1) := by
  rw [← List.drop_drop, ← List.drop_drop, h]
theorem filter_next {α : Type} {p : α → Bool} {xs : List α} {j : Nat} {x : α} (hx : xs[j]? = some x) : (xs.take (j + 1)).filter (fun x => !p x) = (xs.take j).filter (fun x => !p x) ++ (if p x = true then [] else [x]) := by
  rw [List.take_add_one, hx, List.filter_append]
  cases hp : p x <;> simp [hp]
theorem cellsE_take : ∀ (xs : List Ent) (i : Nat), (cellsE xs).take (i * 2) = cellsE (xs.take i)
  | [], i => by cases i <;> rfl
  | e :: r, 0 => rfl
  | e :: r, i + 1 => by
    rw [List.take_succ_cons, cellsE_cons, cellsE_cons, ← cellsE_take r i, show (i + 1) * 2 = i * 2 + 2 by omega]
    rfl
theorem cellsN_take : ∀ (xs : List Nod) (i : Nat), (cellsN xs).take (i * 3) = cellsN (xs.take i)
  | [], i => by cases i <;> rfl
  | e :: r, 0 => rfl
  | e :: r, i + 1 => by
    rw [List.take_succ_cons, cellsN_cons, cellsN_cons, ← cellsN_take r i, show (i + 1) * 3 = i * 3 + 3 by omega]
    rfl
theorem cell_but {w w' : World} {g j r : Nat} {v : Value} (h : w.cell? ⟨g, j, none⟩ = some v) (hg : w.grownBy w' (some r)) (hne : g ≠ r) : w'.cell? ⟨g, j, none⟩ = some v :=
  (World.cell?_of_block (a := ⟨g, j, none⟩) (hg.block g (World.block_lt_of_cell? w _ h) (fun e => hne (Option.some.inj e)))).trans h

/-! ### the two closures -/
set_option maxHeartbeats 400000 in
theorem freshC (t : ByteArray) (i : Int) (gB bM m : Nat) (old : List Ent) (w : World) (ht : t.size ≤ maxLen) (hc : w.cell? ⟨gB, 0, none⟩ = some (.map (some bM))) (hM : MapE w bM m old) :
    Calls Tryz.prog 170 #[.agg #[.string t, .int .i64 i], .pointer (some ⟨gB, 0, none⟩)] w fun e w' => e = .returned (.bool (hasE old t)) ∧ Below w.heap.size w w' := by
  have hn : Below w.heap.size w (w.alloc (.cells #[.string t, .int .i64 i] 53)) := (Below.refl _ _).alloc (Nat.le_refl _) _
  have hc2 := (hn.cell (p := ⟨gB, 0, none⟩) (World.block_lt_of_cell? w _ hc)).trans hc
  have hlk := (hM.below hn).look_ok ht
  have HN := Lib.hid hn
  clear hn hc hM
  go_enter Tryz.func170, Tryz.ntmps170
  go_wp2
  go_ret
  exact ⟨rfl, HN.out⟩
set_option maxHeartbeats 400000 in
theorem lostC (i : Int) (t : ByteArray) (j : Int) (gB bI m : Nat) (f : Int → Bool) (w : World) (hi : (Lit.int .i64 i).wf = true) (hc : w.cell? ⟨gB, 0, none⟩ = some (.map (some bI))) (hM : MapI w bI m f) :
    Calls Tryz.prog 173 #[.agg #[.int .i64 i, .string t, .int .i64 j], .pointer (some ⟨gB, 0, none⟩)] w fun e w' => e = .returned (.bool (!f i)) ∧ Below w.heap.size w w' := by
  have hn : Below w.heap.size w (w.alloc (.cells #[.int .i64 i, .string t, .int .i64 j] 51)) := (Below.refl _ _).alloc (Nat.le_refl _) _
  have hc2 := (hn.cell (p := ⟨gB, 0, none⟩) (World.block_lt_of_cell? w _ hc)).trans hc
  have hlk := (hM.below hn).look hi
  have HN := Lib.hid hn
  generalize f i = q at hlk ⊢
  clear hn hc hM
  go_enter Tryz.func173, Tryz.ntmps173
  go_wp2
  go_ret
  exact ⟨rfl, HN.out⟩

set_option maxHeartbeats 800000 in
theorem indexE (a : Option Addr) (c n gB bM m : Nat) (xs : List Ent) (old : List Ent) (w : World) (hm : n ≤ 100000000) (ha : AtE w a n xs) (hw : ∀ e ∈ xs, e.1.size ≤ maxLen) (hc : w.cell? ⟨gB, 0, none⟩ = some (.map (some bM))) (hM : MapE w bM m old) :
    Calls Tryz.prog 161 #[.slice a n c, .func (.func 170) #[] #[.pointer (some ⟨gB, 0, none⟩)]] w fun e w' => e = .returned (.int .i64 (ixI (ixOf (fun x : Ent => hasE old x.1) xs))) ∧ Below w.heap.size w w' := by
  have HA := Lib.hid ha
  have HC := Lib.hid hc
  have HM := Lib.hid hM
  have HW := Lib.hid hw
  clear ha hc hM hw
  go_enter Tryz.func161, Tryz.ntmps161
  go_wp2
  go_loopw [5, 8] (fun _ q wr => ∃ k : Nat, k ≤ n ∧ q = .int .i64 k ∧ Hid (ixOf (fun x : Ent => hasE old x.1) xs = (ixOf (fun x : Ent => hasE old x.1) (xs.drop k)).map (· + k)) ∧ Below w.heap.size w wr) (fun _ q _ => n - (intOf q).toNat)
  case atStart => exact ⟨0, Nat.zero_le _, rfl, Lib.hid (by simp), Below.refl _ _⟩
  case round =>
    obtain ⟨k, hk, rfl, hf, hbl⟩ := hrel
    by_cases hlt : k < n
    · obtain ⟨t, i, g, o, hx, rfl, hg, c1, c2⟩ := (HA.out.below hbl).get hlt
      have i0 : (0 : Int) ≤ (k : Int) := by omega
      have i1 : (k : Int) < (n : Int) := by omega
      have hwx := HW.out _ (List.mem_of_getElem? hx)
      have CS := Lib.hid (freshC t i gB bM m old wr hwx ((hbl.cell (p := ⟨gB, 0, none⟩) (World.block_lt_of_cell? w _ HC.out)).trans HC.out) (HM.out.below hbl))
      have HBL := Lib.hid hbl
      clear hbl hwx
      cases e : (hasE old t) with
      | true =>
        have HE := Lib.hid (show ixI (ixOf (fun x : Ent => hasE old x.1) xs) = (k : Int) by rw [hf.out, ixOf_yes hx (show (fun x : Ent => hasE old x.1) (t, i) = true from e)]; simp [ixI])
        rw [e] at CS
        clear hx e hf
        go_wp2_with (go_at_call 170; refine CS.out.mono ?_; rintro e w1 ⟨rfl, hb1⟩)
        go_ret
        exact ⟨by rw [HE.out]; rfl, HBL.out.trans (hb1.mono HBL.out.size)⟩
      | false =>
        have HE := Lib.hid (show ixOf (fun x : Ent => hasE old x.1) xs = (ixOf (fun x : Ent => hasE old x.1) (xs.drop (k + 1))).map (· + (k + 1)) by
          rw [hf.out, ixOf_no hx (show (fun x : Ent => hasE old x.1) (t, i) = false from e), Option.map_map]
          congr 1
          funext y
          simp
          omega)
        rw [e] at CS
        clear hx e hf
        go_wp2_with (go_at_call 170; refine CS.out.mono ?_; rintro e w1 ⟨rfl, hb1⟩)
        go_roundw
        case rel => exact ⟨k + 1, by omega, by go_num, HE, HBL.out.trans (hb1.mono HBL.out.size)⟩
        case measure => simp [intOf]; omega
    · obtain rfl : k = n := by omega
      have HE := Lib.hid (show ixI (ixOf (fun x : Ent => hasE old x.1) xs) = -1 by rw [hf.out, drop_end HA.out.len]; rfl)
      go_wp2
      go_ret
      exact ⟨by rw [HE.out]; rfl, hbl⟩

set_option maxHeartbeats 2000000 in
set_option maxRecDepth 100000 in
theorem delE (a : Option Addr) (B c n gB bM m : Nat) (xs : List Ent) (old : List Ent) (w : World) (hm : n ≤ 100000000) (hown : w.ownsRow B 53 2 (.slice a n c) n (cellsE xs)) (hw : ∀ e ∈ xs, e.1.size ≤ maxLen)
    (hc : w.cell? ⟨gB, 0, none⟩ = some (.map (some bM))) (hM : MapE w bM m old) (hgB : (Value.slice a n c).ownBlock ≠ some gB) (hbM : (Value.slice a n c).ownBlock ≠ some bM) :
    Calls Tryz.prog 168 #[.slice a n c, .func (.func 170) #[] #[.pointer (some ⟨gB, 0, none⟩)]] w fun e w' => ∃ u q, e = .returned u ∧ w'.ownsRow B 53 2 u q (cellsE (xs.filter fun x => !hasE old x.1)) ∧ w.grownBy w' (Value.slice a n c).ownBlock := by
  have hat : AtE w a n xs := own_cells hown
  have hlen := hat.len
  have CI := Lib.hid (indexE a c n gB bM m xs old w hm hat hw hc hM)
  have HO := Lib.hid hown
  have HC := Lib.hid hc
  have HM := Lib.hid hM
  have HW := Lib.hid hw
  obtain ⟨r, hr⟩ : ∃ r, r = ixOf (fun x : Ent => hasE old x.1) xs := ⟨_, rfl⟩
  rw [← hr] at CI
  clear hat hown hc hM hw
  cases r with
  | none =>
    rw [show ixI none = -1 from rfl] at CI
    have HF := Lib.hid ((show (xs.filter fun x => !hasE old x.1) = xs.filter (fun x => !(fun x : Ent => hasE old x.1) x) by simp).trans (ixOf_none hr.symm))
    clear hr
    go_enter Tryz.func168, Tryz.ntmps168
    go_wp2_with (go_at_call 161; refine CI.out.mono ?_; rintro e w1 ⟨rfl, hb1⟩)
    go_ret
    exact ⟨_, _, rfl, by rw [HF.out]; exact own_below HO.out hb1, grown_but hb1 _⟩
  | some r =>
    obtain ⟨hrl, hrf⟩ := ixOf_some hr.symm
    rw [show ixI (some r) = (r : Int) from rfl] at CI
    obtain ⟨al, cl, hsh, hcase, _⟩ := own_shape HO.out
    obtain ⟨g, rfl⟩ : ∃ g, a = some ⟨g, 0, none⟩ := by
      rcases HO.out.2 with ⟨h1, h2⟩ | ⟨g, cap, cur, h1, _⟩
      · omega
      · simp only [Value.slice.injEq] at h1
        exact ⟨g, h1.1⟩
    clear hsh hcase
    have hgB' : gB ≠ g := fun e => hgB (by rw [e]; rfl)
    have hbM' : bM ≠ g := fun e => hbM (by rw [e]; rfl)
    have HRF := Lib.hid hrf
    have r0 : ¬ (r : Int) = -1 := by omega
    clear hr hrf hgB hbM
    go_enter Tryz.func168, Tryz.ntmps168
    go_wp2_with (go_at_call 161; refine CI.out.mono ?_; rintro e w1 ⟨rfl, hb1⟩)
    have HB1 := Lib.hid hb1
    have HO1 := Lib.hid (own_below HO.out hb1)
    have hz1 := hb1.size
    clear hb1
    go_loopw [5, 6] (fun v6 v5 wr => ∃ (i j : Nat) (ys : List Ent), i < j ∧ j ≤ n ∧ v6 = .int .i64 i ∧ v5 = .int .i64 j ∧ Hid (ys.length = n ∧ ys.take i = (xs.take j).filter (fun x => !(fun x : Ent => hasE old x.1) x) ∧ i = ((xs.take j).filter (fun x => !(fun x : Ent => hasE old x.1) x)).length ∧ ys.drop j = xs.drop j) ∧ wr.ownsRow B 53 2 (.slice (some ⟨g, 0, none⟩) n c) n (cellsE ys) ∧ w.grownBy wr (some g)) (fun _ v5 _ => n - (intOf v5).toNat)
    case atStart =>
      refine ⟨r, r + 1, xs, by omega, by omega, rfl, by go_num, Lib.hid ⟨hlen, HRF.out.symm, ?_, rfl⟩, HO1.out, grown_but HB1.out _⟩
      rw [HRF.out, List.length_take]
      omega
    case round =>
      obtain ⟨i, j, ys, hij, hjn, rfl, rfl, hf, hown, hgr⟩ := hrel
      obtain ⟨f1, f2, f3, f4⟩ := hf.out
      by_cases hlt : j < n
      · obtain ⟨t, i2, g2, o2, hx, ho, hg, c1, c2⟩ := (show AtE wr (some ⟨g, 0, none⟩) n ys from own_cells hown).get hlt
        simp only [Option.some.injEq, Addr.mk.injEq, and_true] at ho
        obtain ⟨rfl, rfl⟩ := ho
        simp only [Nat.zero_add] at c1 c2
        have hxx := (at_drop f4).symm.trans hx
        have hwx := HW.out _ (List.mem_of_getElem? hxx)
        have HFN := Lib.hid (filter_next (p := fun x : Ent => hasE old x.1) hxx)
        have CS := Lib.hid (fun (w2 : World) (hb : Below wr.heap.size wr w2) => freshC t i2 gB bM m old w2 hwx (cell_but HC.out (grown_more hgr (grown_but hb _)) hgB') (HM.out.kept (grown_more hgr (grown_but hb _)) (fun e => hbM' (Option.some.inj e))))
        have i0 : (0 : Int) ≤ (i : Int) := by omega
        have i1 : (i : Int) < (n : Int) := by omega
        have j0 : (0 : Int) ≤ (j : Int) := by omega
        have j1 : (j : Int) < (n : Int) := by omega
        obtain ⟨W1, hW1⟩ : ∃ W1, W1 = wr.alloc (.cells #[.string t, .int .i64 i2] 53) := ⟨_, rfl⟩
        have hr1 : Below wr.heap.size wr W1 := by rw [hW1]; exact (Below.refl _ _).alloc (Nat.le_refl _) _
        have nb := show disk.Box W1 wr.heap.size [.string t, .int .i64 i2] from by rw [hW1]; exact Box.new _ _ _
        have HO2 := Lib.hid (own_below hown hr1)
        have HG2 := Lib.hid (grown_more hgr (grown_but hr1 (some g)))
        have HR1 := Lib.hid hr1
        have HNB := Lib.hid nb
        have n0 := nb.at 0 _ rfl
        have n1 := nb.at 1 _ rfl
        
        have hzr := hgr.size
        have hgl : g < wr.heap.size := (own_block_ge hown g rfl).2
        have HF := Lib.hid hf.out
        clear hx hxx hown hgr hr1 nb hf f1 f2 f3 f4 hwx
        cases e : (hasE old t) with
        | true =>
          rw [e] at CS HFN
          have HK := Lib.hid (show (xs.take (j + 1)).filter (fun x => !(fun x : Ent => hasE old x.1) x) = (xs.take j).filter (fun x => !(fun x : Ent => hasE old x.1) x) by rw [HFN.out]; simp)
          clear e HFN
          go_wp2_with (first
            | (go_at_call 170; rw [← hW1]; refine (CS.out W1 HR1.out).mono ?_; rintro e w3 ⟨rfl, hb3⟩))
          refine ⟨?_, ?measure⟩
          iterate 23 apply Exists.intro
          refine ⟨?rel, rfl⟩
          case rel => exact ⟨i, j + 1, ys, by omega, by omega, rfl, by go_num, Lib.hid ⟨HF.out.1, by rw [HK.out]; exact HF.out.2.1, by rw [HK.out]; exact HF.out.2.2.1, drop_next HF.out.2.2.2⟩, own_below HO2.out hb3, grown_more HG2.out (grown_but hb3 _)⟩
          case measure => simp [intOf]; omega
        | false =>
          rw [e] at CS HFN
          have HK := Lib.hid (show (xs.take (j + 1)).filter (fun x => !(fun x : Ent => hasE old x.1) x) = (xs.take j).filter (fun x => !(fun x : Ent => hasE old x.1) x) ++ [(t, i2)] by rw [HFN.out]; simp)
          clear e HFN
          go_wp2_with (first
            | (go_at_call 170; rw [← hW1]; refine (CS.out W1 HR1.out).mono ?_; rintro e w3 ⟨rfl, hb3⟩; have m0 := (hb3.cell (p := ⟨wr.heap.size, 0, none⟩) HNB.out.1).trans n0; have m1 := (hb3.cell (p := ⟨wr.heap.size, 1, none⟩) HNB.out.1).trans n1;  have HO3 := Lib.hid (own_below HO2.out hb3); have HG3 := Lib.hid (grown_more HG2.out (grown_but hb3 (some g))); have q0 := own_cell HO3.out (j := i * 2) (by omega); have q1 := own_cell HO3.out (j := i * 2 + 1) (by omega);  have z0 := HO3.out.frozenAt (i * 2); have z1 := HO3.out.frozenAt (i * 2 + 1); 
               obtain ⟨y0, q0⟩ := Option.isSome_iff_exists.1 q0; obtain ⟨y1, q1⟩ := Option.isSome_iff_exists.1 q1; skip))
          have hil : i < ys.length := by rw [HF.out.1]; omega
          have g1 := HO3.out.stored (i * 2) (.string t)
          have g2 := g1.1.stored (i * 2 + 1) (.int .i64 i2)
          skip
          refine ⟨?_, ?measure⟩
          iterate 23 apply Exists.intro
          refine ⟨?rel, rfl⟩
          case rel =>
            refine ⟨i + 1, j + 1, ys.set i (t, i2), by omega, by omega, by go_num, by go_num, Lib.hid ⟨by rw [List.length_set]; exact HF.out.1, ?_, ?_, ?_⟩, own_set2 HO3.out hil t i2, grown_more HG3.out (grown_more g1.2 g2.2)⟩
            · rw [take_set_same hil, HF.out.2.1, HK.out]
            · rw [HK.out, List.length_append, ← HF.out.2.2.1]; rfl
            · rw [drop_set_ahead (by omega)]; exact drop_next HF.out.2.2.2
          case measure => simp [intOf]; omega
      · obtain rfl : j = n := by omega
        obtain ⟨hnc, hcm⟩ : j ≤ c ∧ c ≤ maxLen := by
          rcases hown.2 with ⟨h1, _⟩ | ⟨g', cap', cur, h1, _, _, h2, h3, _⟩
          · simp at h1
          · simp only [Value.slice.injEq] at h1
            obtain ⟨_, _, rfl⟩ := h1
            exact ⟨h2, h3⟩
        have i0 : (0 : Int) ≤ (i : Int) := by omega
        have i1 : (i : Int) ≤ (j : Int) := by omega
        have i2 : (i : Int) ≤ (c : Int) := by omega
        have i3 : (j : Int) ≤ (c : Int) := by omega
        have j0 : ¬ (j : Int) < (j : Int) := by omega
        have hz : (.agg #[.string { data := #[] }, .int .i64 0] : Value).cells.size = 2 := rfl
        have hcl : ∀ ty, (Builtin.clear_ #[25] ty #[.slice (some ⟨g, i * 2, none⟩) (j - i) (c - i)]).run Tryz.prog wr = .ok (.tuple #[]) (wr.setCells g (i * 2) (Builtin.zeroCells (.agg #[.string { data := #[] }, .int .i64 0] : Value).cells (j - i)).toList) :=
          fun ty => run_clear_any wr _ 53 ty (.agg #[.string { data := #[] }, .int .i64 0]) Tryz.underlying25 (fun w => by kernel_rfl) g (i * 2) (j - i) (c - i) (by omega)
            (fun k hk => own_cell hown (by rw [zero_len, hz] at hk; have : (j - i) * 2 = j * 2 - i * 2 := Nat.sub_mul ..; omega)) (fun k => hown.frozenAt _) (zero_one (by simp [Value.cells, Value.oneCell']))
        obtain ⟨ho1, hg1⟩ := own_setCells (Builtin.zeroCells (.agg #[.string { data := #[] }, .int .i64 0] : Value).cells (j - i)).toList (i * 2) wr (cellsE ys) hown
        have HO9 := Lib.hid (own_shrink ho1 (i := i) (by omega))
        have HG9 := Lib.hid (grown_more hgr hg1)
        have HCE := Lib.hid (show (setL (cellsE ys) (i * 2) (Builtin.zeroCells (.agg #[.string { data := #[] }, .int .i64 0] : Value).cells (j - i)).toList).take (i * 2) = cellsE (xs.filter fun x => !hasE old x.1) by
          rw [show (xs.filter fun x => !hasE old x.1) = xs.filter (fun x => !(fun x : Ent => hasE old x.1) x) by simp]
          rw [setL_take _ _ _ _ (Nat.le_refl _), cellsE_take, f2, List.take_of_length_le (by omega)])
        clear hf f1 f2 f3 f4 hown hgr ho1 hg1
        go_wp2
        go_ret
        exact ⟨_, rfl, ⟨i, by rw [← HCE.out]; exact HO9.out⟩, HG9.out⟩

set_option maxHeartbeats 800000 in
theorem indexN (a : Option Addr) (c n gB bM m : Nat) (xs : List Nod) (f : Int → Bool) (w : World) (hm : n ≤ 100000000) (ha : AtN w a n xs) (hw : ∀ e ∈ xs, (Lit.int .i64 e.1).wf = true) (hc : w.cell? ⟨gB, 0, none⟩ = some (.map (some bM))) (hM : MapI w bM m f) :
    Calls Tryz.prog 187 #[.slice a n c, .func (.func 173) #[] #[.pointer (some ⟨gB, 0, none⟩)]] w fun e w' => e = .returned (.int .i64 (ixI (ixOf (fun x : Nod => !f x.1) xs))) ∧ Below w.heap.size w w' := by
  have HA := Lib.hid ha
  have HC := Lib.hid hc
  have HM := Lib.hid hM
  have HW := Lib.hid hw
  clear ha hc hM hw
  go_enter Tryz.func187, Tryz.ntmps187
  go_wp2
  go_loopw [5, 8] (fun _ q wr => ∃ k : Nat, k ≤ n ∧ q = .int .i64 k ∧ Hid (ixOf (fun x : Nod => !f x.1) xs = (ixOf (fun x : Nod => !f x.1) (xs.drop k)).map (· + k)) ∧ Below w.heap.size w wr) (fun _ q _ => n - (intOf q).toNat)
  case atStart => exact ⟨0, Nat.zero_le _, rfl, Lib.hid (by simp), Below.refl _ _⟩
  case round =>
    obtain ⟨k, hk, rfl, hf, hbl⟩ := hrel
    by_cases hlt : k < n
    · obtain ⟨i, t, jj, g, o, hx, rfl, hg, c1, c2, c3⟩ := (HA.out.below hbl).get hlt
      have i0 : (0 : Int) ≤ (k : Int) := by omega
      have i1 : (k : Int) < (n : Int) := by omega
      have hwx := HW.out _ (List.mem_of_getElem? hx)
      have CS := Lib.hid (lostC i t jj gB bM m f wr hwx ((hbl.cell (p := ⟨gB, 0, none⟩) (World.block_lt_of_cell? w _ HC.out)).trans HC.out) (HM.out.below hbl))
      have HBL := Lib.hid hbl
      clear hbl hwx
      cases e : (!f i) with
      | true =>
        have HE := Lib.hid (show ixI (ixOf (fun x : Nod => !f x.1) xs) = (k : Int) by rw [hf.out, ixOf_yes hx (show (fun x : Nod => !f x.1) (i, t, jj) = true from e)]; simp [ixI])
        rw [e] at CS
        clear hx e hf
        go_wp2_with (go_at_call 173; refine CS.out.mono ?_; rintro e w1 ⟨rfl, hb1⟩)
        go_ret
        exact ⟨by rw [HE.out]; rfl, HBL.out.trans (hb1.mono HBL.out.size)⟩
      | false =>
        have HE := Lib.hid (show ixOf (fun x : Nod => !f x.1) xs = (ixOf (fun x : Nod => !f x.1) (xs.drop (k + 1))).map (· + (k + 1)) by
          rw [hf.out, ixOf_no hx (show (fun x : Nod => !f x.1) (i, t, jj) = false from e), Option.map_map]
          congr 1
          funext y
          simp
          omega)
        rw [e] at CS
        clear hx e hf
        go_wp2_with (go_at_call 173; refine CS.out.mono ?_; rintro e w1 ⟨rfl, hb1⟩)
        go_roundw
        case rel => exact ⟨k + 1, by omega, by go_num, HE, HBL.out.trans (hb1.mono HBL.out.size)⟩
        case measure => simp [intOf]; omega
    · obtain rfl : k = n := by omega
      have HE := Lib.hid (show ixI (ixOf (fun x : Nod => !f x.1) xs) = -1 by rw [hf.out, drop_end HA.out.len]; rfl)
      go_wp2
      go_ret
      exact ⟨by rw [HE.out]; rfl, hbl⟩

set_option maxHeartbeats 2000000 in
set_option maxRecDepth 100000 in
theorem delN (a : Option Addr) (B c n gB bM m : Nat) (xs : List Nod) (f : Int → Bool) (w : World) (hm : n ≤ 100000000) (hown : w.ownsRow B 51 3 (.slice a n c) n (cellsN xs)) (hw : ∀ e ∈ xs, (Lit.int .i64 e.1).wf = true)
    (hc : w.cell? ⟨gB, 0, none⟩ = some (.map (some bM))) (hM : MapI w bM m f) (hgB : (Value.slice a n c).ownBlock ≠ some gB) (hbM : (Value.slice a n c).ownBlock ≠ some bM) :
    Calls Tryz.prog 172 #[.slice a n c, .func (.func 173) #[] #[.pointer (some ⟨gB, 0, none⟩)]] w fun e w' => ∃ u q, e = .returned u ∧ w'.ownsRow B 51 3 u q (cellsN (xs.filter fun x => f x.1)) ∧ w.grownBy w' (Value.slice a n c).ownBlock := by
  have hat : AtN w a n xs := own_cells hown
  have hlen := hat.len
  have CI := Lib.hid (indexN a c n gB bM m xs f w hm hat hw hc hM)
  have HO := Lib.hid hown
  have HC := Lib.hid hc
  have HM := Lib.hid hM
  have HW := Lib.hid hw
  obtain ⟨r, hr⟩ : ∃ r, r = ixOf (fun x : Nod => !f x.1) xs := ⟨_, rfl⟩
  rw [← hr] at CI
  clear hat hown hc hM hw
  cases r with
  | none =>
    rw [show ixI none = -1 from rfl] at CI
    have HF := Lib.hid ((show (xs.filter fun x => f x.1) = xs.filter (fun x => !(fun x : Nod => !f x.1) x) by simp).trans (ixOf_none hr.symm))
    clear hr
    go_enter Tryz.func172, Tryz.ntmps172
    go_wp2_with (go_at_call 187; refine CI.out.mono ?_; rintro e w1 ⟨rfl, hb1⟩)
    go_ret
    exact ⟨_, _, rfl, by rw [HF.out]; exact own_below HO.out hb1, grown_but hb1 _⟩
  | some r =>
    obtain ⟨hrl, hrf⟩ := ixOf_some hr.symm
    rw [show ixI (some r) = (r : Int) from rfl] at CI
    obtain ⟨al, cl, hsh, hcase, _⟩ := own_shape HO.out
    obtain ⟨g, rfl⟩ : ∃ g, a = some ⟨g, 0, none⟩ := by
      rcases HO.out.2 with ⟨h1, h2⟩ | ⟨g, cap, cur, h1, _⟩
      · omega
      · simp only [Value.slice.injEq] at h1
        exact ⟨g, h1.1⟩
    clear hsh hcase
    have hgB' : gB ≠ g := fun e => hgB (by rw [e]; rfl)
    have hbM' : bM ≠ g := fun e => hbM (by rw [e]; rfl)
    have HRF := Lib.hid hrf
    have r0 : ¬ (r : Int) = -1 := by omega
    clear hr hrf hgB hbM
    go_enter Tryz.func172, Tryz.ntmps172
    go_wp2_with (go_at_call 187; refine CI.out.mono ?_; rintro e w1 ⟨rfl, hb1⟩)
    have HB1 := Lib.hid hb1
    have HO1 := Lib.hid (own_below HO.out hb1)
    have hz1 := hb1.size
    clear hb1
    go_loopw [5, 6] (fun v6 v5 wr => ∃ (i j : Nat) (ys : List Nod), i < j ∧ j ≤ n ∧ v6 = .int .i64 i ∧ v5 = .int .i64 j ∧ Hid (ys.length = n ∧ ys.take i = (xs.take j).filter (fun x => !(fun x : Nod => !f x.1) x) ∧ i = ((xs.take j).filter (fun x => !(fun x : Nod => !f x.1) x)).length ∧ ys.drop j = xs.drop j) ∧ wr.ownsRow B 51 3 (.slice (some ⟨g, 0, none⟩) n c) n (cellsN ys) ∧ w.grownBy wr (some g)) (fun _ v5 _ => n - (intOf v5).toNat)
    case atStart =>
      refine ⟨r, r + 1, xs, by omega, by omega, rfl, by go_num, Lib.hid ⟨hlen, HRF.out.symm, ?_, rfl⟩, HO1.out, grown_but HB1.out _⟩
      rw [HRF.out, List.length_take]
      omega
    case round =>
      obtain ⟨i, j, ys, hij, hjn, rfl, rfl, hf, hown, hgr⟩ := hrel
      obtain ⟨f1, f2, f3, f4⟩ := hf.out
      by_cases hlt : j < n
      · obtain ⟨i2, t, jj, g2, o2, hx, ho, hg, c1, c2, c3⟩ := (show AtN wr (some ⟨g, 0, none⟩) n ys from own_cells hown).get hlt
        simp only [Option.some.injEq, Addr.mk.injEq, and_true] at ho
        obtain ⟨rfl, rfl⟩ := ho
        simp only [Nat.zero_add] at c1 c2 c3
        have hxx := (at_drop f4).symm.trans hx
        have hwx := HW.out _ (List.mem_of_getElem? hxx)
        have HFN := Lib.hid (filter_next (p := fun x : Nod => !f x.1) hxx)
        have CS := Lib.hid (fun (w2 : World) (hb : Below wr.heap.size wr w2) => lostC i2 t jj gB bM m f w2 hwx (cell_but HC.out (grown_more hgr (grown_but hb _)) hgB') (HM.out.kept (grown_more hgr (grown_but hb _)) (fun e => hbM' (Option.some.inj e))))
        have i0 : (0 : Int) ≤ (i : Int) := by omega
        have i1 : (i : Int) < (n : Int) := by omega
        have j0 : (0 : Int) ≤ (j : Int) := by omega
        have j1 : (j : Int) < (n : Int) := by omega
        obtain ⟨W1, hW1⟩ : ∃ W1, W1 = wr.alloc (.cells #[.int .i64 i2, .string t, .int .i64 jj] 51) := ⟨_, rfl⟩
        have hr1 : Below wr.heap.size wr W1 := by rw [hW1]; exact (Below.refl _ _).alloc (Nat.le_refl _) _
        have nb := show disk.Box W1 wr.heap.size [.int .i64 i2, .string t, .int .i64 jj] from by rw [hW1]; exact Box.new _ _ _
        have HO2 := Lib.hid (own_below hown hr1)
        have HG2 := Lib.hid (grown_more hgr (grown_but hr1 (some g)))
        have HR1 := Lib.hid hr1
        have HNB := Lib.hid nb
        have n0 := nb.at 0 _ rfl
        have n1 := nb.at 1 _ rfl
        have n2 := nb.at 2 _ rfl
        have hzr := hgr.size
        have hgl : g < wr.heap.size := (own_block_ge hown g rfl).2
        have HF := Lib.hid hf.out
        clear hx hxx hown hgr hr1 nb hf f1 f2 f3 f4 hwx
        cases e : (!f i2) with
        | true =>
          rw [e] at CS HFN
          have HK := Lib.hid (show (xs.take (j + 1)).filter (fun x => !(fun x : Nod => !f x.1) x) = (xs.take j).filter (fun x => !(fun x : Nod => !f x.1) x) by rw [HFN.out]; simp)
          clear e HFN
          go_wp2_with (first
            | (go_at_call 173; rw [← hW1]; refine (CS.out W1 HR1.out).mono ?_; rintro e w3 ⟨rfl, hb3⟩))
          refine ⟨?_, ?measure⟩
          iterate 23 apply Exists.intro
          refine ⟨?rel, rfl⟩
          case rel => exact ⟨i, j + 1, ys, by omega, by omega, rfl, by go_num, Lib.hid ⟨HF.out.1, by rw [HK.out]; exact HF.out.2.1, by rw [HK.out]; exact HF.out.2.2.1, drop_next HF.out.2.2.2⟩, own_below HO2.out hb3, grown_more HG2.out (grown_but hb3 _)⟩
          case measure => simp [intOf]; omega
        | false =>
          rw [e] at CS HFN
          have HK := Lib.hid (show (xs.take (j + 1)).filter (fun x => !(fun x : Nod => !f x.1) x) = (xs.take j).filter (fun x => !(fun x : Nod => !f x.1) x) ++ [(i2, t, jj)] by rw [HFN.out]; simp)
          clear e HFN
          go_wp2_with (first
            | (go_at_call 173; rw [← hW1]; refine (CS.out W1 HR1.out).mono ?_; rintro e w3 ⟨rfl, hb3⟩; have m0 := (hb3.cell (p := ⟨wr.heap.size, 0, none⟩) HNB.out.1).trans n0; have m1 := (hb3.cell (p := ⟨wr.heap.size, 1, none⟩) HNB.out.1).trans n1; have m2 := (hb3.cell (p := ⟨wr.heap.size, 2, none⟩) HNB.out.1).trans n2; have HO3 := Lib.hid (own_below HO2.out hb3); have HG3 := Lib.hid (grown_more HG2.out (grown_but hb3 (some g))); have q0 := own_cell HO3.out (j := i * 3) (by omega); have q1 := own_cell HO3.out (j := i * 3 + 1) (by omega); have q2 := own_cell HO3.out (j := i * 3 + 2) (by omega); have z0 := HO3.out.frozenAt (i * 3); have z1 := HO3.out.frozenAt (i * 3 + 1); have z2 := HO3.out.frozenAt (i * 3 + 2);
               obtain ⟨y0, q0⟩ := Option.isSome_iff_exists.1 q0; obtain ⟨y1, q1⟩ := Option.isSome_iff_exists.1 q1; obtain ⟨y2, q2⟩ := Option.isSome_iff_exists.1 q2))
          have hil : i < ys.length := by rw [HF.out.1]; omega
          have g1 := HO3.out.stored (i * 3) (.int .i64 i2)
          have g2 := g1.1.stored (i * 3 + 1) (.string t)
          have g3 := g2.1.stored (i * 3 + 2) (.int .i64 jj)
          refine ⟨?_, ?measure⟩
          iterate 23 apply Exists.intro
          refine ⟨?rel, rfl⟩
          case rel =>
            refine ⟨i + 1, j + 1, ys.set i (i2, t, jj), by omega, by omega, by go_num, by go_num, Lib.hid ⟨by rw [List.length_set]; exact HF.out.1, ?_, ?_, ?_⟩, own_set3 HO3.out hil i2 t jj, grown_more HG3.out (grown_more g1.2 (grown_more g2.2 g3.2))⟩
            · rw [take_set_same hil, HF.out.2.1, HK.out]
            · rw [HK.out, List.length_append, ← HF.out.2.2.1]; rfl
            · rw [drop_set_ahead (by omega)]; exact drop_next HF.out.2.2.2
          case measure => simp [intOf]; omega
      · obtain rfl : j = n := by omega
        obtain ⟨hnc, hcm⟩ : j ≤ c ∧ c ≤ maxLen := by
          rcases hown.2 with ⟨h1, _⟩ | ⟨g', cap', cur, h1, _, _, h2, h3, _⟩
          · simp at h1
          · simp only [Value.slice.injEq] at h1
            obtain ⟨_, _, rfl⟩ := h1
            exact ⟨h2, h3⟩
        have i0 : (0 : Int) ≤ (i : Int) := by omega
        have i1 : (i : Int) ≤ (j : Int) := by omega
        have i2 : (i : Int) ≤ (c : Int) := by omega
        have i3 : (j : Int) ≤ (c : Int) := by omega
        have j0 : ¬ (j : Int) < (j : Int) := by omega
        have hz : (.agg #[.int .i64 0, .string { data := #[] }, .int .i64 0] : Value).cells.size = 3 := rfl
        have hcl : ∀ ty, (Builtin.clear_ #[24] ty #[.slice (some ⟨g, i * 3, none⟩) (j - i) (c - i)]).run Tryz.prog wr = .ok (.tuple #[]) (wr.setCells g (i * 3) (Builtin.zeroCells (.agg #[.int .i64 0, .string { data := #[] }, .int .i64 0] : Value).cells (j - i)).toList) :=
          fun ty => run_clear_any wr _ 51 ty (.agg #[.int .i64 0, .string { data := #[] }, .int .i64 0]) Tryz.underlying24 (fun w => by kernel_rfl) g (i * 3) (j - i) (c - i) (by omega)
            (fun k hk => own_cell hown (by rw [zero_len, hz] at hk; have : (j - i) * 3 = j * 3 - i * 3 := Nat.sub_mul ..; omega)) (fun k => hown.frozenAt _) (zero_one (by simp [Value.cells, Value.oneCell']))
        obtain ⟨ho1, hg1⟩ := own_setCells (Builtin.zeroCells (.agg #[.int .i64 0, .string { data := #[] }, .int .i64 0] : Value).cells (j - i)).toList (i * 3) wr (cellsN ys) hown
        have HO9 := Lib.hid (own_shrink ho1 (i := i) (by omega))
        have HG9 := Lib.hid (grown_more hgr hg1)
        have HCE := Lib.hid (show (setL (cellsN ys) (i * 3) (Builtin.zeroCells (.agg #[.int .i64 0, .string { data := #[] }, .int .i64 0] : Value).cells (j - i)).toList).take (i * 3) = cellsN (xs.filter fun x => f x.1) by
          rw [show (xs.filter fun x => f x.1) = xs.filter (fun x => !(fun x : Nod => !f x.1) x) by simp]
          rw [setL_take _ _ _ _ (Nat.le_refl _), cellsN_take, f2, List.take_of_length_le (by omega)])
        clear hf f1 f2 f3 f4 hown hgr ho1 hg1
        go_wp2
        go_ret
        exact ⟨_, rfl, ⟨i, by rw [← HCE.out]; exact HO9.out⟩, HG9.out⟩

end Go.Proofs.YtdacdbidennjhaaGreatDoor.ik

namespace Go.Proofs.YtdacdbidennjhaaGreatDoor.ik
open Go.RowKit Go.Maps Go.WideMaps
open kit strs recs disk deed kd

set_option maxHeartbeats 1000000 in
set_option maxRecDepth 100000 in
theorem implFresh (bN n bW m : Nat) (l old : List Ent) (w : World) (hn : n ≤ 10000000) (hl : MapE w bN n l) (ho : MapE w bW m old) (hz : ∀ e ∈ l, e.1.size ≤ maxLen) :
    Calls Tryz.prog 137 #[.map (some bN), .map (some bW)] w fun e w' => ∃ u, e = .returned u ∧ OwnE w.heap.size w' u (l.filter (notIn old)) ∧ Below w.heap.size w w' := by
  have hlen := hl.len
  obtain ⟨W, hW⟩ : ∃ W, W = w.alloc (.cells #[.map (some bW)] 94) := ⟨_, rfl⟩
  have HWB := Lib.hid (show Below w.heap.size w W by rw [hW]; exact (Below.refl _ _).alloc (Nat.le_refl _) _)
  have hWs : W.heap.size = w.heap.size + 1 := by rw [hW]; simp
  have HC := Lib.hid (show W.cell? ⟨w.heap.size, 0, none⟩ = some (.map (some bW)) by rw [hW]; simp)
  have HL := Lib.hid (hl.below HWB.out)
  have HO := Lib.hid (ho.below HWB.out)
  have HOL := Lib.hid ho.lt
  clear hl ho
  go_enter Tryz.func137, Tryz.ntmps137
  go_wp2_with (fail)
  rw [← hW]
  clear hW
  refine (implEntries bN n l W (by omega) HL.out).mono ?_
  rintro e1 w1 ⟨v1, rfl, ⟨q, hown⟩, hb1⟩
  obtain ⟨a1, c1, rfl, hcase, hle⟩ := own_shape hown
  obtain rfl : l.length = q := (show AtE w1 a1 q l from own_cells hown).len
  have hc1 := (hb1.cell (p := ⟨w.heap.size, 0, none⟩) (World.block_lt_of_cell? W _ HC.out)).trans HC.out
  have hge : ∀ g, (Value.slice a1 l.length c1).ownBlock = some g → W.heap.size ≤ g := fun g hg => (own_block_ge hown g hg).1
  have hol := HOL.out
  have CD := Lib.hid (delE a1 W.heap.size c1 l.length w.heap.size bW m l old w1 (by omega) hown hz hc1 (HO.out.below hb1) (fun h => by have := hge _ h; omega) (fun h => by have := hge _ h; omega))
  have HB1 := Lib.hid (HWB.out.trans (hb1.mono HWB.out.size))
  have HGE := Lib.hid hge
  have hz1 := hb1.size
  clear hown hcase hle hc1 hb1 hge
  go_wp2_with (fail)
  refine CD.out.mono ?_
  rintro e2 w2 ⟨u2, q2, rfl, hown2, hg2⟩
  obtain ⟨a2, c2, rfl, _, _⟩ := own_shape hown2
  have HX := Lib.hid (HB1.out.grown hg2 HB1.out.size (fun k hk => by have := HGE.out k hk; omega))
  have HY := Lib.hid (own_base hown2 (show w.heap.size ≤ W.heap.size by omega))
  clear hg2 hown2
  go_wp2
  go_ret
  exact ⟨_, rfl, ⟨q2, HY.out⟩, HX.out⟩

theorem names_wf {b n : Nat} {l : List Ent} {w : World} (h : MapE w b n l) : ∀ e ∈ l, e.1.size ≤ maxLen := fun e he => by
  obtain ⟨D, ho, hr, hs⟩ := h
  have hperm := hr.perm hs ho lawS Tryz.underlying9
  have := strKeys_le ho Tryz.underlying9 e.1.data.toList (hperm.subset (by unfold keysE; exact List.mem_map_of_mem he))
  rw [Array.length_toList] at this
  exact this
theorem idE_mem {l : List Ent} {e : Ent} (hs : Srt l) (h : e ∈ l) : idE l e.1 = e.2 := by
  unfold idE
  rw [mem_at hs h]
  rfl
theorem has_at {l : List Ent} {s : ByteArray} (h : hasE l s = true) : entAt l s = some (idE l s) := by
  unfold hasE at h
  unfold idE
  cases e : entAt l s with
  | none => rw [e] at h; cases h
  | some i => rfl
theorem has_no {l : List Ent} {s : ByteArray} (h : hasE l s = false) : entAt l s = none := by
  unfold hasE at h
  cases e : entAt l s with
  | none => rfl
  | some i => rw [e] at h; cases h

end Go.Proofs.YtdacdbidennjhaaGreatDoor.ik

namespace Go.Proofs.YtdacdbidennjhaaGreatDoor.ik
open Go.RowKit Go.Maps Go.WideMaps
open kit strs recs disk deed kd

/-- the same slice without its first element -/
theorem at_next {w : World} {g o n : Nat} {xs : List Ent} (h : AtE w (some ⟨g, o, none⟩) (n + 1) xs) : AtE w (some ⟨g, o + 2, none⟩) n (xs.drop 1) := by
  have hl := h.len
  refine ⟨by rw [cellsE_len, List.length_drop, hl, Nat.add_sub_cancel], ?_⟩
  rcases h.2 with h0 | ⟨b, off, hb, hlt, hc⟩
  · exact absurd h0 (by omega)
  · simp only [Option.some.injEq, Addr.mk.injEq, and_true] at hb
    obtain ⟨rfl, rfl⟩ := hb
    refine .inr ⟨g, o + 2, rfl, hlt, fun j x hx => ?_⟩
    have e : (cellsE xs)[2 + j]? = some x := by
      cases xs with
      | nil => simp at hl
      | cons y r =>
        rw [cellsE_cons]
        rw [show 2 + j = j + 1 + 1 by omega, List.getElem?_cons_succ, List.getElem?_cons_succ]
        exact hx
    have := hc (2 + j) x e
    rw [show o + (2 + j) = o + 2 + j by omega] at this
    exact this
theorem at_zero {w : World} {a : Option Addr} : AtE w a 0 [] := ⟨rfl, .inl rfl⟩
def lenV : Value → Nat
  | .slice _ n _ => n
  | _ => 0
theorem out_len {w : World} {B q : Nat} {v : Value} {out : List Ent} (h : w.ownsRow B 53 2 v q (cellsE out)) : q = out.length := by
  have := h.1
  rw [cellsE_len] at this
  omega
theorem block_new {w : World} {B q b : Nat} {v : Value} {xs : List Value} {size : Nat} {e : TypeId} (h : w.ownsRow B e size v q xs) (hb : b < B) : v.ownBlock ≠ some b := fun e => by
  have := (own_block_ge h b e).1
  omega

set_option maxHeartbeats 8000000 in
set_option maxRecDepth 100000 in
theorem implInOrder (a : Option Addr) (c n bN m : Nat) (old l : List Ent) (w : World) (hn : n ≤ 2000000) (hm : m ≤ 10000000) (ha : AtE w a n old) (hw : recs.wfE old) (hs : Srt old) (hl : MapE w bN m l) :
    Calls Tryz.prog 91 #[.slice a n c, .map (some bN)] w fun e w' => ∃ u, e = .returned u ∧ OwnE w.heap.size w' u l ∧ Below w.heap.size w w' := by
  obtain ⟨i0, hi, hz0, hz1, hz2⟩ := info_parts Tryz.infoEnt
  have hll := hl.len
  have hls := hl.srt
  have HA := Lib.hid ha
  have HW := Lib.hid hw
  have HS := Lib.hid hs
  have HL := Lib.hid hl
  have HNW := Lib.hid (names_wf hl)
  have hal := ha.len
  clear ha hw hs hl
  go_enter Tryz.func91, Tryz.ntmps91
  go_wp2_with (fail)
  refine (implNames a c n old w hn HA.out HW.out HS.out).mono ?_
  rintro e1 w1 ⟨b1, rfl, hm1, hlo, hb1⟩
  have HM1 := Lib.hid hm1
  have HB1 := Lib.hid hb1
  have hz1' := hb1.size
  clear hm1 hb1
  go_wp2_with (fail)
  refine (implFresh bN m b1 n l old w1 hm (HL.out.below HB1.out) HM1.out HNW.out).mono ?_
  rintro e2 w2 ⟨v2, rfl, ⟨q2, hown2⟩, hb2⟩
  obtain ⟨a2, c2, rfl, _, hcap⟩ := own_shape hown2
  obtain ⟨fs, hfs⟩ : ∃ fs, fs = l.filter (notIn old) := ⟨_, rfl⟩
  rw [← hfs] at hown2
  have HF0 := Lib.hid (show l = ordGo (entAt l) old fs by rw [hfs, ordGo_is (entAt l) old l HS.out hls (fun e _ => rfl)])
  obtain rfl : fs.length = q2 := (show AtE w2 a2 q2 fs from own_cells hown2).len
  have HFS := Lib.hid (show AtE w2 a2 fs.length fs from own_cells hown2)
  have hfl : fs.length ≤ l.length := by rw [hfs]; exact List.length_filter_le _ _
  have hcc : fs.length ≤ c2 := by
    rcases hown2.2 with ⟨h1, h2⟩ | ⟨g', cap', cur, h1, _, _, h2, h3, _⟩
    · simp only [Value.slice.injEq] at h1
      omega
    · simp only [Value.slice.injEq] at h1
      obtain ⟨_, _, rfl⟩ := h1
      exact h2
  have HB2 := Lib.hid (HB1.out.trans (hb2.mono HB1.out.size))
  have HM2 := Lib.hid (HM1.out.below hb2)
  have HL2 := Lib.hid (HL.out.below HB2.out)
  have hz2' := hb2.size
  have hwz : w.heap.size ≤ w2.heap.size := HB2.out.size
  clear hown2 hb2 hfs hcap
  go_wp2
  go_loopw [6, 7, 19] (fun v6 v7 i wr => ∃ (a6 : Option Addr) (c6 j q k : Nat) (a7 : Option Addr) (c7 : Nat) (out : List Ent), j ≤ fs.length ∧ v6 = .slice a6 (fs.length - j) c6 ∧ fs.length - j ≤ c6 ∧ Hid (AtE w2 a6 (fs.length - j) (fs.drop j)) ∧ k ≤ n ∧ i = .int .i64 k ∧
      v7 = .slice a7 q c7 ∧ Hid (wr.ownsRow w2.heap.size 53 2 (.slice a7 q c7) q (cellsE out)) ∧ Hid (l = out ++ ordGo (entAt l) (old.drop k) (fs.drop j)) ∧ Hid (Below w2.heap.size w2 wr)) (fun _ _ i _ => n - (intOf i).toNat)
  case atStart => exact ⟨a2, c2, 0, 0, 0, none, 0, [], Nat.zero_le _, by rw [Nat.sub_zero], by omega, Lib.hid (by rw [Nat.sub_zero, List.drop_zero]; exact HFS.out), Nat.zero_le _, rfl, rfl, Lib.hid (World.ownsRow_nil _ _ _ _), Lib.hid (by rw [List.drop_zero, List.drop_zero]; exact HF0.out), Lib.hid (Below.refl _ _)⟩
  case round =>
    clear HF0 HFS hcc
    obtain ⟨wo, hwo⟩ : ∃ wo, wo = wr := ⟨_, rfl⟩
    subst hwo
    obtain ⟨a6, c6, j, q, k, a7, c7, out, hj, rfl, hjc, hat6, hk, rfl, rfl, hown, hf, hb⟩ := hrel
    by_cases hlt : k < n
    · obtain ⟨t, io, g, o, hx, rfl, hg, x1, x2⟩ := ((HA.out.below HB2.out).below hb.out).get hlt
      have k0 : (0 : Int) ≤ (k : Int) := by omega
      have k1 : (k : Int) < (n : Int) := by omega
      have hmem := List.mem_of_getElem? hx
      have htw := (HW.out _ hmem).1
      have HX := Lib.hid hx
      have hidw : idE old t = io := idE_mem (e := (t, io)) HS.out hmem
      obtain ⟨W0, hW0⟩ : ∃ W0, W0 = wo.alloc (.cells #[.string t, .int .i64 io] 53) := ⟨_, rfl⟩
      have hr0 : Below wo.heap.size wo W0 := by rw [hW0]; exact (Below.refl _ _).alloc (Nat.le_refl _) _
      have HR0 := Lib.hid hr0
      have nb := show disk.Box W0 wo.heap.size [.string t, .int .i64 io] from by rw [hW0]; exact Box.new _ _ _
      have nf : ∀ j, W0.frozen? ⟨wo.heap.size, j, none⟩ = false := fun j => by rw [hW0]; simp
      have HNB := Lib.hid nb
      have HNF := Lib.hid nf
      have HW0 := Lib.hid hW0
      have n0 := nb.at 0 _ rfl
      have n1 := nb.at 1 _ rfl
      have HBW := Lib.hid (hb.out.trans (hr0.mono hb.out.size))
      have hlk1 := ((HL2.out.below hb.out).below hr0).look_ok htw
      have hlk2 := (((HM2.out.below hb.out).below hr0).look htw).1
      rw [hidw] at hlk2
      have HO0 := Lib.hid (own_below hown.out hr0)
      have hne0 : (Value.slice a7 q c7).ownBlock ≠ some wo.heap.size := fun e => by
        have := (own_block_ge hown.out _ e).2
        omega
      have hzr := hb.out.size
      clear hx hmem nb hr0 hidw nf
      cases hh : hasE l t with
      | false =>
        rw [hh] at hlk1
        have HF1 := Lib.hid (show l = out ++ ordGo (entAt l) (old.drop (k + 1)) (fs.drop j) by rw [← ord_none HX.out (has_no hh)]; exact hf.out)
        clear hh hlk2
        rw [HW0.out] at hlk1
        go_wp2
        refine ⟨?rel, ?measure⟩
        case rel =>
          first
            | exact ⟨a6, c6, j, q, k + 1, a7, c7, out, hj, rfl, hjc, hat6, by omega, by go_num, rfl, by rw [← HW0.out]; exact HO0, HF1, by rw [← HW0.out]; exact HBW⟩
            | (iterate 100 (try apply Exists.intro)
               refine ⟨?r2, rfl⟩
               exact ⟨a6, c6, j, q, k + 1, a7, c7, out, hj, rfl, hjc, hat6, by omega, by go_num, rfl, by rw [← HW0.out]; exact HO0, HF1, by rw [← HW0.out]; exact HBW⟩)
        case measure => simp [intOf]; omega
      | true =>
        obtain ⟨id, hid⟩ : ∃ id, idE l t = id := ⟨_, rfl⟩
        rw [hh, hid] at hlk1
        have HF1 := Lib.hid (show l = out ++ ordIn (entAt l) t id (old.drop (k + 1)) (fs.drop j) by rw [← ord_some HX.out (show entAt l t = some id by rw [has_at hh, hid])]; exact hf.out)
        clear hh hid
        by_cases hio : id = io
        · have hne : (id != io) = false := by simpa using hio
          have hne' : (id == io) = true := by simpa using hio
          have HIO := Lib.hid hio
          clear hio
          obtain ⟨W1, hW1⟩ : ∃ W1, W1 = W0 := ⟨_, rfl⟩
          have HR3 := Lib.hid (show Below wo.heap.size wo W1 by rw [hW1]; exact HR0.out)
          have HBX := Lib.hid (show disk.Box W1 wo.heap.size [.string t, .int .i64 id] by rw [hW1, HIO.out]; exact HNB.out)
          have HB3 := Lib.hid (hb.out.trans (HR3.out.mono hb.out.size))
          have HO3 := Lib.hid (own_below hown.out HR3.out)
          have hz3 := HR3.out.size
          have hlw : wo.heap.size < W1.heap.size := HBX.out.1
          clear n0 n1 HNB HNF HR0 HBW HO0
          rw [HW0.out] at hlk1 hlk2 hW1
          go_wp2
          rw [← hW1]
          go_loopw [6, 7] (fun v6 v7 wx => ∃ (a6 : Option Addr) (c6 j q : Nat) (a7 : Option Addr) (c7 : Nat) (out : List Ent), j ≤ fs.length ∧ v6 = .slice a6 (fs.length - j) c6 ∧ fs.length - j ≤ c6 ∧ Hid (AtE w2 a6 (fs.length - j) (fs.drop j)) ∧
              v7 = .slice a7 q c7 ∧ Hid (wx.ownsRow w2.heap.size 53 2 (.slice a7 q c7) q (cellsE out)) ∧ (Value.slice a7 q c7).ownBlock ≠ some wo.heap.size ∧ Hid (l = out ++ ordIn (entAt l) t id (old.drop (k + 1)) (fs.drop j)) ∧ Hid (Below w2.heap.size w2 wx) ∧ Hid (disk.Box wx wo.heap.size [.string t, .int .i64 id])) (fun v6 _ _ => lenV v6)
          case atStart => exact ⟨a6, c6, j, q, a7, c7, out, hj, rfl, hjc, hat6, rfl, HO3, hne0, HF1, HB3, HBX⟩
          case round =>
            clear HF1 HO3 HB3 HBX hat6 hjc hown hf hne0
            obtain ⟨a6, c6, j, q, a7, c7, out, hj, rfl, hjc, hat6, rfl, hown, hne0, hf, hb, hbx⟩ := hrel
            have e0 := hbx.out.at 0 _ rfl
            have e1 := hbx.out.at 1 _ rfl
            have hq := out_len hown.out
            have hzx := hb.out.size
            have hbl := hbx.out.1
            obtain ⟨r, hr⟩ : ∃ r, r = fs.length - j := ⟨_, rfl⟩
            rw [← hr] at hat6 hjc ⊢
            have HR := Lib.hid hr
            clear hr
            by_cases hr0 : 0 < r
            · obtain ⟨y, iy, g, o, hy, rfl, hg, c1, c2⟩ := hat6.out.get hr0
              simp only [Nat.zero_mul, Nat.add_zero] at c1 c2
              have hyx : fs[j]? = some (y, iy) := by rw [List.getElem?_drop, Nat.add_zero] at hy; exact hy
              have g0 : (0 : Int) < (r : Int) := by omega
              have y1 := (hb.out.cell (p := ⟨g, o, none⟩) hg).trans c1
              have y2 := (hb.out.cell (p := ⟨g, o + 1, none⟩) hg).trans c2
              cases hlt : lessB y t with
              | true =>
                have hlt' : Op.bytesLess y.toList t.toList = true := hlt
                have HF2 := Lib.hid (show l = (out ++ [(y, iy)]) ++ ordIn (entAt l) t id (old.drop (k + 1)) (fs.drop (j + 1)) by
                  have := hf.out
                  rw [ordIn_more hyx hlt] at this
                  rw [List.append_assoc]
                  exact this)
                have hol : out.length + 1 ≤ l.length := by
                  have := congrArg List.length HF2.out
                  rw [List.length_append, List.length_append, List.length_singleton] at this
                  omega
                have bn : q + 1 ≤ maxLen := by unfold maxLen; omega
                have bm : (q + 1) * 24 ≤ 140737488355328 := by omega
                have HAN := Lib.hid (show AtE w2 (some ⟨g, o + 2, none⟩) (r - 1) (fs.drop (j + 1)) by
                  have := at_next (n := r - 1) (show AtE w2 (some ⟨g, o, none⟩) (r - 1 + 1) (fs.drop j) by rw [show r - 1 + 1 = r by omega]; exact hat6.out)
                  rw [List.drop_drop] at this
                  exact this)
                have s1 : (1 : Int) ≤ (r : Int) := by omega
                have s2 : (r : Int) ≤ (c6 : Int) := by omega
                have s3 : (1 : Int) ≤ (c6 : Int) := by omega
                clear hlt hf hy hyx c1 c2 hol hq
                go_wp2
                go_quiet (fail)
                obtain ⟨wa, hwa⟩ : ∃ wa, wa = wr.drewN nq := ⟨_, rfl⟩
                have dq := drew_facts hwa
                rw [← hwa]
                clear hwa
                have HDQ := Lib.hid dq
                have HBA := Lib.hid (hb.out.trans (dq.mono hzx))
                have hza : w2.heap.size ≤ wa.heap.size := Nat.le_trans hzx dq.size
                replace y1 := (dq.cell (p := ⟨g, o, none⟩) (Nat.lt_of_lt_of_le hg hzx)).trans y1
                replace y2 := (dq.cell (p := ⟨g, o + 1, none⟩) (Nat.lt_of_lt_of_le hg hzx)).trans y2
                have HOA := Lib.hid (own_below (own_below hown.out dq) (show Below wa.heap.size wa (wa.alloc (.cells #[.string y, .int .i64 iy] 53)) from (Below.refl _ _).alloc (Nat.le_refl _) _))
                have boA : w2.heap.size ≤ (wa.alloc (.cells #[.string y, .int .i64 iy] 53)).heap.size := by simp; omega
                have CA := Lib.hid (cells_new2 wa (.string y) (.int .i64 iy) 53)
                have HBXA := Lib.hid ((hbx.out.below dq).below (show Below wa.heap.size wa (wa.alloc (.cells #[.string y, .int .i64 iy] 53)) from (Below.refl _ _).alloc (Nat.le_refl _) _))
                have HBA2 := Lib.hid (HBA.out.alloc hza (.cells #[.string y, .int .i64 iy] 53))
                clear dq
                by_cases hc1 : c6 = 1
                · obtain rfl : r = 1 := by omega
                  subst hc1
                  go_wp2_with (at_builtin; refine list_copy2 (by rfl) (.tmp 52) (.tmp 56) 25 (by rfl) w2.heap.size 53 i0 (.agg #[.string { data := #[] }, .int .i64 0]) 2 24 Tryz.underlying25 hi hz0 hz1 hz2 (by rfl) (by decide) _ q (cellsE out) HOA.out boA ⟨wa.heap.size, 0, none⟩ 1 1 [.string y, .int .i64 iy] CA.out (two_one _ _) (by decide) bn bm (by rfl) (by rfl) ?_; intro v4 w4 hown4 hg4 hf4; obtain ⟨a4, c4, rfl, _, _⟩ := own_shape hown4)
                  have HO4 := Lib.hid (show w4.ownsRow w2.heap.size 53 2 (.slice a4 (q + 1) c4) (q + 1) (cellsE (out ++ [(y, iy)])) by rw [cellsE_app]; exact hown4)
                  have HB4 := Lib.hid (HBA2.out.grown hg4 boA (fun g hg => (own_block_ge HOA.out g hg).1))
                  have HBX4 := Lib.hid (box_grown HBXA.out hg4 hne0)
                  have hne4 : (Value.slice a4 (q + 1) c4).ownBlock ≠ some wo.heap.size := fun e => by
                    rcases hf4 with h | h
                    · exact hne0 (h ▸ e)
                    · have := (own_block_ge h _ e).1
                      simp at this
                      have := HDQ.out.size
                      omega
                  refine ⟨?rel, ?measure⟩
                  case rel =>
                    first
                      | exact ⟨some ⟨g, o, none⟩, 0, j + 1, q + 1, a4, c4, out ++ [(y, iy)], by have := HR.out; omega, by have := HR.out; first | (congr 1; omega) | simp, by have := HR.out; omega, Lib.hid (by have h1 := HR.out; rw [show fs.length - (j + 1) = 0 by omega, List.drop_of_length_le (by omega)]; exact at_zero), rfl, HO4, hne4, HF2, HB4, HBX4⟩
                      | (iterate 100 (try apply Exists.intro)
                         refine ⟨?r2, rfl⟩
                         exact ⟨some ⟨g, o, none⟩, 0, j + 1, q + 1, a4, c4, out ++ [(y, iy)], by have := HR.out; omega, by have := HR.out; first | (congr 1; omega) | simp, by have := HR.out; omega, Lib.hid (by have h1 := HR.out; rw [show fs.length - (j + 1) = 0 by omega, List.drop_of_length_le (by omega)]; exact at_zero), rfl, HO4, hne4, HF2, HB4, HBX4⟩)
                  case measure => simp [lenV]
                · have hc2 : ¬ (c6 : Int) - 1 = 0 := by omega
                  have hc3 : ¬ c6 - 1 = 0 := by omega
                  go_wp2_with (at_builtin; refine list_copy2 (by rfl) (.tmp 52) (.tmp 56) 25 (by rfl) w2.heap.size 53 i0 (.agg #[.string { data := #[] }, .int .i64 0]) 2 24 Tryz.underlying25 hi hz0 hz1 hz2 (by rfl) (by decide) _ q (cellsE out) HOA.out boA ⟨wa.heap.size, 0, none⟩ 1 1 [.string y, .int .i64 iy] CA.out (two_one _ _) (by decide) bn bm (by rfl) (by rfl) ?_; intro v4 w4 hown4 hg4 hf4; obtain ⟨a4, c4, rfl, _, _⟩ := own_shape hown4)
                  have HO4 := Lib.hid (show w4.ownsRow w2.heap.size 53 2 (.slice a4 (q + 1) c4) (q + 1) (cellsE (out ++ [(y, iy)])) by rw [cellsE_app]; exact hown4)
                  have HB4 := Lib.hid (HBA2.out.grown hg4 boA (fun g hg => (own_block_ge HOA.out g hg).1))
                  have HBX4 := Lib.hid (box_grown HBXA.out hg4 hne0)
                  have hne4 : (Value.slice a4 (q + 1) c4).ownBlock ≠ some wo.heap.size := fun e => by
                    rcases hf4 with h | h
                    · exact hne0 (h ▸ e)
                    · have := (own_block_ge h _ e).1
                      simp at this
                      have := HDQ.out.size
                      omega
                  refine ⟨?rel, ?measure⟩
                  case rel =>
                    first
                      | exact ⟨some ⟨g, o + 2, none⟩, c6 - 1, j + 1, q + 1, a4, c4, out ++ [(y, iy)], by have := HR.out; omega, by have := HR.out; first | (congr 1; omega) | simp, by have := HR.out; omega, Lib.hid (by have h1 := HR.out; rw [show fs.length - (j + 1) = r - 1 by omega]; exact HAN.out), rfl, HO4, hne4, HF2, HB4, HBX4⟩
                      | (iterate 100 (try apply Exists.intro)
                         refine ⟨?r2, rfl⟩
                         exact ⟨some ⟨g, o + 2, none⟩, c6 - 1, j + 1, q + 1, a4, c4, out ++ [(y, iy)], by have := HR.out; omega, by have := HR.out; first | (congr 1; omega) | simp, by have := HR.out; omega, Lib.hid (by have h1 := HR.out; rw [show fs.length - (j + 1) = r - 1 by omega]; exact HAN.out), rfl, HO4, hne4, HF2, HB4, HBX4⟩)
                  case measure => simp [lenV]; omega
              | false =>
                have hlt' : Op.bytesLess y.toList t.toList = false := hlt
                have HF2 := Lib.hid (show l = (out ++ [(t, id)]) ++ ordGo (entAt l) (old.drop (k + 1)) (fs.drop j) by
                  have := hf.out
                  rw [ordIn_stop hyx hlt] at this
                  rw [List.append_assoc]
                  exact this)
                clear hlt hf hy hyx c1 c2
                have hol : out.length + 1 ≤ l.length := by
                  have := congrArg List.length HF2.out
                  rw [List.length_append, List.length_append, List.length_singleton] at this
                  omega
                have bn : q + 1 ≤ maxLen := by unfold maxLen; omega
                have bm : (q + 1) * 24 ≤ 140737488355328 := by omega
                clear hol hq
                go_wp2
                go_quiet (fail)
                obtain ⟨wa, hwa⟩ : ∃ wa, wa = wr.drewN nq := ⟨_, rfl⟩
                have dq := drew_facts hwa
                rw [← hwa]
                clear hwa
                have HDQ := Lib.hid dq
                have HBA := Lib.hid (hb.out.trans (dq.mono hzx))
                have hza : w2.heap.size ≤ wa.heap.size := Nat.le_trans hzx dq.size
                replace e0 := (dq.cell (p := ⟨wo.heap.size, 0, none⟩) hbl).trans e0
                replace e1 := (dq.cell (p := ⟨wo.heap.size, 1, none⟩) hbl).trans e1
                have HOA := Lib.hid (own_below (own_below hown.out dq) (show Below wa.heap.size wa (wa.alloc (.cells #[.string t, .int .i64 id] 53)) from (Below.refl _ _).alloc (Nat.le_refl _) _))
                have boA : w2.heap.size ≤ (wa.alloc (.cells #[.string t, .int .i64 id] 53)).heap.size := by simp; omega
                have CA := Lib.hid (cells_new2 wa (.string t) (.int .i64 id) 53)
                have HBA2 := Lib.hid (HBA.out.alloc hza (.cells #[.string t, .int .i64 id] 53))
                clear dq
                go_wp2_with (at_builtin; refine list_copy2 (by rfl) (.tmp 60) (.tmp 62) 25 (by rfl) w2.heap.size 53 i0 (.agg #[.string { data := #[] }, .int .i64 0]) 2 24 Tryz.underlying25 hi hz0 hz1 hz2 (by rfl) (by decide) _ q (cellsE out) HOA.out boA ⟨wa.heap.size, 0, none⟩ 1 1 [.string t, .int .i64 id] CA.out (two_one _ _) (by decide) bn bm (by rfl) (by rfl) ?_; intro v4 w4 hown4 hg4 hf4; obtain ⟨a4, c4, rfl, _, _⟩ := own_shape hown4)
                have HO4 := Lib.hid (show w4.ownsRow w2.heap.size 53 2 (.slice a4 (q + 1) c4) (q + 1) (cellsE (out ++ [(t, id)])) by rw [cellsE_app]; exact hown4)
                have HB4 := Lib.hid (HBA2.out.grown hg4 boA (fun g hg => (own_block_ge HOA.out g hg).1))
                refine ⟨?rel, ?measure⟩
                case rel =>
                  first
                    | exact ⟨_, c6, j, q + 1, k + 1, a4, c4, out ++ [(t, id)], hj, by have := HR.out; first | rfl | (congr 1), by have := HR.out; omega, Lib.hid (by have h1 := HR.out; rw [← h1]; exact hat6.out), by omega, by go_num, rfl, HO4, HF2, HB4⟩
                    | (iterate 100 (try apply Exists.intro)
                       refine ⟨?r2, rfl⟩
                       exact ⟨_, c6, j, q + 1, k + 1, a4, c4, out ++ [(t, id)], hj, by have := HR.out; first | rfl | (congr 1), by have := HR.out; omega, Lib.hid (by have h1 := HR.out; rw [← h1]; exact hat6.out), by omega, by go_num, rfl, HO4, HF2, HB4⟩)
                case measure => simp [intOf]; omega
            · obtain rfl : r = 0 := by omega
              have g0 : ¬ (0 : Int) < ((0 : Nat) : Int) := by simp
              have HF2 := Lib.hid (show l = (out ++ [(t, id)]) ++ ordGo (entAt l) (old.drop (k + 1)) (fs.drop j) by
                have := hf.out
                rw [ordIn_end (by have := HR.out; omega)] at this
                rw [List.append_assoc]
                exact this)
              clear hf
              have hol : out.length + 1 ≤ l.length := by
                have := congrArg List.length HF2.out
                rw [List.length_append, List.length_append, List.length_singleton] at this
                omega
              have bn : q + 1 ≤ maxLen := by unfold maxLen; omega
              have bm : (q + 1) * 24 ≤ 140737488355328 := by omega
              clear hol hq
              go_wp2
              go_quiet (fail)
              obtain ⟨wa, hwa⟩ : ∃ wa, wa = wr.drewN nq := ⟨_, rfl⟩
              have dq := drew_facts hwa
              rw [← hwa]
              clear hwa
              have HDQ := Lib.hid dq
              have HBA := Lib.hid (hb.out.trans (dq.mono hzx))
              have hza : w2.heap.size ≤ wa.heap.size := Nat.le_trans hzx dq.size
              replace e0 := (dq.cell (p := ⟨wo.heap.size, 0, none⟩) hbl).trans e0
              replace e1 := (dq.cell (p := ⟨wo.heap.size, 1, none⟩) hbl).trans e1
              have HOA := Lib.hid (own_below (own_below hown.out dq) (show Below wa.heap.size wa (wa.alloc (.cells #[.string t, .int .i64 id] 53)) from (Below.refl _ _).alloc (Nat.le_refl _) _))
              have boA : w2.heap.size ≤ (wa.alloc (.cells #[.string t, .int .i64 id] 53)).heap.size := by simp; omega
              have CA := Lib.hid (cells_new2 wa (.string t) (.int .i64 id) 53)
              have HBA2 := Lib.hid (HBA.out.alloc hza (.cells #[.string t, .int .i64 id] 53))
              clear dq
              go_wp2_with (at_builtin; refine list_copy2 (by rfl) (.tmp 60) (.tmp 62) 25 (by rfl) w2.heap.size 53 i0 (.agg #[.string { data := #[] }, .int .i64 0]) 2 24 Tryz.underlying25 hi hz0 hz1 hz2 (by rfl) (by decide) _ q (cellsE out) HOA.out boA ⟨wa.heap.size, 0, none⟩ 1 1 [.string t, .int .i64 id] CA.out (two_one _ _) (by decide) bn bm (by rfl) (by rfl) ?_; intro v4 w4 hown4 hg4 hf4; obtain ⟨a4, c4, rfl, _, _⟩ := own_shape hown4)
              have HO4 := Lib.hid (show w4.ownsRow w2.heap.size 53 2 (.slice a4 (q + 1) c4) (q + 1) (cellsE (out ++ [(t, id)])) by rw [cellsE_app]; exact hown4)
              have HB4 := Lib.hid (HBA2.out.grown hg4 boA (fun g hg => (own_block_ge HOA.out g hg).1))
              refine ⟨?rel, ?measure⟩
              case rel =>
                first
                  | exact ⟨_, c6, j, q + 1, k + 1, a4, c4, out ++ [(t, id)], hj, by have := HR.out; first | rfl | (congr 1), by have := HR.out; omega, Lib.hid (by have h1 := HR.out; rw [← h1]; exact hat6.out), by omega, by go_num, rfl, HO4, HF2, HB4⟩
                  | (iterate 100 (try apply Exists.intro)
                     refine ⟨?r2, rfl⟩
                     exact ⟨_, c6, j, q + 1, k + 1, a4, c4, out ++ [(t, id)], hj, by have := HR.out; first | rfl | (congr 1), by have := HR.out; omega, Lib.hid (by have h1 := HR.out; rw [← h1]; exact hat6.out), by omega, by go_num, rfl, HO4, HF2, HB4⟩)
              case measure => simp [intOf]; omega
        · have hne : (id != io) = true := by simpa using hio
          have hne' : (id == io) = false := by simpa using hio
          have HIO := Lib.hid hio
          clear hio
          obtain ⟨W1, hW1⟩ : ∃ W1, W1 = wo.alloc (.cells #[.string t, .int .i64 id] 53) := ⟨_, rfl⟩
          have HR3 := Lib.hid (show Below wo.heap.size wo W1 by rw [hW1]; exact (Below.refl _ _).alloc (Nat.le_refl _) _)
          have HBX := Lib.hid (show disk.Box W1 wo.heap.size [.string t, .int .i64 id] by rw [hW1]; exact Box.new _ _ _)
          have HB3 := Lib.hid (hb.out.trans (HR3.out.mono hb.out.size))
          have HO3 := Lib.hid (own_below hown.out HR3.out)
          have hz3 := HR3.out.size
          have hlw : wo.heap.size < W1.heap.size := HBX.out.1
          clear n0 n1 HNB HNF HR0 HBW HO0
          rw [HW0.out] at hlk1 hlk2
          go_wp2
          rw [← hW1]
          go_loopw [6, 7] (fun v6 v7 wx => ∃ (a6 : Option Addr) (c6 j q : Nat) (a7 : Option Addr) (c7 : Nat) (out : List Ent), j ≤ fs.length ∧ v6 = .slice a6 (fs.length - j) c6 ∧ fs.length - j ≤ c6 ∧ Hid (AtE w2 a6 (fs.length - j) (fs.drop j)) ∧
              v7 = .slice a7 q c7 ∧ Hid (wx.ownsRow w2.heap.size 53 2 (.slice a7 q c7) q (cellsE out)) ∧ (Value.slice a7 q c7).ownBlock ≠ some wo.heap.size ∧ Hid (l = out ++ ordIn (entAt l) t id (old.drop (k + 1)) (fs.drop j)) ∧ Hid (Below w2.heap.size w2 wx) ∧ Hid (disk.Box wx wo.heap.size [.string t, .int .i64 id])) (fun v6 _ _ => lenV v6)
          case atStart => exact ⟨a6, c6, j, q, a7, c7, out, hj, rfl, hjc, hat6, rfl, HO3, hne0, HF1, HB3, HBX⟩
          case round =>
            clear HF1 HO3 HB3 HBX hat6 hjc hown hf hne0
            obtain ⟨a6, c6, j, q, a7, c7, out, hj, rfl, hjc, hat6, rfl, hown, hne0, hf, hb, hbx⟩ := hrel
            have e0 := hbx.out.at 0 _ rfl
            have e1 := hbx.out.at 1 _ rfl
            have hq := out_len hown.out
            have hzx := hb.out.size
            have hbl := hbx.out.1
            obtain ⟨r, hr⟩ : ∃ r, r = fs.length - j := ⟨_, rfl⟩
            rw [← hr] at hat6 hjc ⊢
            have HR := Lib.hid hr
            clear hr
            by_cases hr0 : 0 < r
            · obtain ⟨y, iy, g, o, hy, rfl, hg, c1, c2⟩ := hat6.out.get hr0
              simp only [Nat.zero_mul, Nat.add_zero] at c1 c2
              have hyx : fs[j]? = some (y, iy) := by rw [List.getElem?_drop, Nat.add_zero] at hy; exact hy
              have g0 : (0 : Int) < (r : Int) := by omega
              have y1 := (hb.out.cell (p := ⟨g, o, none⟩) hg).trans c1
              have y2 := (hb.out.cell (p := ⟨g, o + 1, none⟩) hg).trans c2
              cases hlt : lessB y t with
              | true =>
                have hlt' : Op.bytesLess y.toList t.toList = true := hlt
                have HF2 := Lib.hid (show l = (out ++ [(y, iy)]) ++ ordIn (entAt l) t id (old.drop (k + 1)) (fs.drop (j + 1)) by
                  have := hf.out
                  rw [ordIn_more hyx hlt] at this
                  rw [List.append_assoc]
                  exact this)
                have hol : out.length + 1 ≤ l.length := by
                  have := congrArg List.length HF2.out
                  rw [List.length_append, List.length_append, List.length_singleton] at this
                  omega
                have bn : q + 1 ≤ maxLen := by unfold maxLen; omega
                have bm : (q + 1) * 24 ≤ 140737488355328 := by omega
                have HAN := Lib.hid (show AtE w2 (some ⟨g, o + 2, none⟩) (r - 1) (fs.drop (j + 1)) by
                  have := at_next (n := r - 1) (show AtE w2 (some ⟨g, o, none⟩) (r - 1 + 1) (fs.drop j) by rw [show r - 1 + 1 = r by omega]; exact hat6.out)
                  rw [List.drop_drop] at this
                  exact this)
                have s1 : (1 : Int) ≤ (r : Int) := by omega
                have s2 : (r : Int) ≤ (c6 : Int) := by omega
                have s3 : (1 : Int) ≤ (c6 : Int) := by omega
                clear hlt hf hy hyx c1 c2 hol hq
                go_wp2
                go_quiet (fail)
                obtain ⟨wa, hwa⟩ : ∃ wa, wa = wr.drewN nq := ⟨_, rfl⟩
                have dq := drew_facts hwa
                rw [← hwa]
                clear hwa
                have HDQ := Lib.hid dq
                have HBA := Lib.hid (hb.out.trans (dq.mono hzx))
                have hza : w2.heap.size ≤ wa.heap.size := Nat.le_trans hzx dq.size
                replace y1 := (dq.cell (p := ⟨g, o, none⟩) (Nat.lt_of_lt_of_le hg hzx)).trans y1
                replace y2 := (dq.cell (p := ⟨g, o + 1, none⟩) (Nat.lt_of_lt_of_le hg hzx)).trans y2
                have HOA := Lib.hid (own_below (own_below hown.out dq) (show Below wa.heap.size wa (wa.alloc (.cells #[.string y, .int .i64 iy] 53)) from (Below.refl _ _).alloc (Nat.le_refl _) _))
                have boA : w2.heap.size ≤ (wa.alloc (.cells #[.string y, .int .i64 iy] 53)).heap.size := by simp; omega
                have CA := Lib.hid (cells_new2 wa (.string y) (.int .i64 iy) 53)
                have HBXA := Lib.hid ((hbx.out.below dq).below (show Below wa.heap.size wa (wa.alloc (.cells #[.string y, .int .i64 iy] 53)) from (Below.refl _ _).alloc (Nat.le_refl _) _))
                have HBA2 := Lib.hid (HBA.out.alloc hza (.cells #[.string y, .int .i64 iy] 53))
                clear dq
                by_cases hc1 : c6 = 1
                · obtain rfl : r = 1 := by omega
                  subst hc1
                  go_wp2_with (at_builtin; refine list_copy2 (by rfl) (.tmp 52) (.tmp 56) 25 (by rfl) w2.heap.size 53 i0 (.agg #[.string { data := #[] }, .int .i64 0]) 2 24 Tryz.underlying25 hi hz0 hz1 hz2 (by rfl) (by decide) _ q (cellsE out) HOA.out boA ⟨wa.heap.size, 0, none⟩ 1 1 [.string y, .int .i64 iy] CA.out (two_one _ _) (by decide) bn bm (by rfl) (by rfl) ?_; intro v4 w4 hown4 hg4 hf4; obtain ⟨a4, c4, rfl, _, _⟩ := own_shape hown4)
                  have HO4 := Lib.hid (show w4.ownsRow w2.heap.size 53 2 (.slice a4 (q + 1) c4) (q + 1) (cellsE (out ++ [(y, iy)])) by rw [cellsE_app]; exact hown4)
                  have HB4 := Lib.hid (HBA2.out.grown hg4 boA (fun g hg => (own_block_ge HOA.out g hg).1))
                  have HBX4 := Lib.hid (box_grown HBXA.out hg4 hne0)
                  have hne4 : (Value.slice a4 (q + 1) c4).ownBlock ≠ some wo.heap.size := fun e => by
                    rcases hf4 with h | h
                    · exact hne0 (h ▸ e)
                    · have := (own_block_ge h _ e).1
                      simp at this
                      have := HDQ.out.size
                      omega
                  refine ⟨?rel, ?measure⟩
                  case rel =>
                    first
                      | exact ⟨some ⟨g, o, none⟩, 0, j + 1, q + 1, a4, c4, out ++ [(y, iy)], by have := HR.out; omega, by have := HR.out; first | (congr 1; omega) | simp, by have := HR.out; omega, Lib.hid (by have h1 := HR.out; rw [show fs.length - (j + 1) = 0 by omega, List.drop_of_length_le (by omega)]; exact at_zero), rfl, HO4, hne4, HF2, HB4, HBX4⟩
                      | (iterate 100 (try apply Exists.intro)
                         refine ⟨?r2, rfl⟩
                         exact ⟨some ⟨g, o, none⟩, 0, j + 1, q + 1, a4, c4, out ++ [(y, iy)], by have := HR.out; omega, by have := HR.out; first | (congr 1; omega) | simp, by have := HR.out; omega, Lib.hid (by have h1 := HR.out; rw [show fs.length - (j + 1) = 0 by omega, List.drop_of_length_le (by omega)]; exact at_zero), rfl, HO4, hne4, HF2, HB4, HBX4⟩)
                  case measure => simp [lenV]
                · have hc2 : ¬ (c6 : Int) - 1 = 0 := by omega
                  have hc3 : ¬ c6 - 1 = 0 := by omega
                  go_wp2_with (at_builtin; refine list_copy2 (by rfl) (.tmp 52) (.tmp 56) 25 (by rfl) w2.heap.size 53 i0 (.agg #[.string { data := #[] }, .int .i64 0]) 2 24 Tryz.underlying25 hi hz0 hz1 hz2 (by rfl) (by decide) _ q (cellsE out) HOA.out boA ⟨wa.heap.size, 0, none⟩ 1 1 [.string y, .int .i64 iy] CA.out (two_one _ _) (by decide) bn bm (by rfl) (by rfl) ?_; intro v4 w4 hown4 hg4 hf4; obtain ⟨a4, c4, rfl, _, _⟩ := own_shape hown4)
                  have HO4 := Lib.hid (show w4.ownsRow w2.heap.size 53 2 (.slice a4 (q + 1) c4) (q + 1) (cellsE (out ++ [(y, iy)])) by rw [cellsE_app]; exact hown4)
                  have HB4 := Lib.hid (HBA2.out.grown hg4 boA (fun g hg => (own_block_ge HOA.out g hg).1))
                  have HBX4 := Lib.hid (box_grown HBXA.out hg4 hne0)
                  have hne4 : (Value.slice a4 (q + 1) c4).ownBlock ≠ some wo.heap.size := fun e => by
                    rcases hf4 with h | h
                    · exact hne0 (h ▸ e)
                    · have := (own_block_ge h _ e).1
                      simp at this
                      have := HDQ.out.size
                      omega
                  refine ⟨?rel, ?measure⟩
                  case rel =>
                    first
                      | exact ⟨some ⟨g, o + 2, none⟩, c6 - 1, j + 1, q + 1, a4, c4, out ++ [(y, iy)], by have := HR.out; omega, by have := HR.out; first | (congr 1; omega) | simp, by have := HR.out; omega, Lib.hid (by have h1 := HR.out; rw [show fs.length - (j + 1) = r - 1 by omega]; exact HAN.out), rfl, HO4, hne4, HF2, HB4, HBX4⟩
                      | (iterate 100 (try apply Exists.intro)
                         refine ⟨?r2, rfl⟩
                         exact ⟨some ⟨g, o + 2, none⟩, c6 - 1, j + 1, q + 1, a4, c4, out ++ [(y, iy)], by have := HR.out; omega, by have := HR.out; first | (congr 1; omega) | simp, by have := HR.out; omega, Lib.hid (by have h1 := HR.out; rw [show fs.length - (j + 1) = r - 1 by omega]; exact HAN.out), rfl, HO4, hne4, HF2, HB4, HBX4⟩)
                  case measure => simp [lenV]; omega
              | false =>
                have hlt' : Op.bytesLess y.toList t.toList = false := hlt
                have HF2 := Lib.hid (show l = (out ++ [(t, id)]) ++ ordGo (entAt l) (old.drop (k + 1)) (fs.drop j) by
                  have := hf.out
                  rw [ordIn_stop hyx hlt] at this
                  rw [List.append_assoc]
                  exact this)
                clear hlt hf hy hyx c1 c2
                have hol : out.length + 1 ≤ l.length := by
                  have := congrArg List.length HF2.out
                  rw [List.length_append, List.length_append, List.length_singleton] at this
                  omega
                have bn : q + 1 ≤ maxLen := by unfold maxLen; omega
                have bm : (q + 1) * 24 ≤ 140737488355328 := by omega
                clear hol hq
                go_wp2
                go_quiet (fail)
                obtain ⟨wa, hwa⟩ : ∃ wa, wa = wr.drewN nq := ⟨_, rfl⟩
                have dq := drew_facts hwa
                rw [← hwa]
                clear hwa
                have HDQ := Lib.hid dq
                have HBA := Lib.hid (hb.out.trans (dq.mono hzx))
                have hza : w2.heap.size ≤ wa.heap.size := Nat.le_trans hzx dq.size
                replace e0 := (dq.cell (p := ⟨wo.heap.size, 0, none⟩) hbl).trans e0
                replace e1 := (dq.cell (p := ⟨wo.heap.size, 1, none⟩) hbl).trans e1
                have HOA := Lib.hid (own_below (own_below hown.out dq) (show Below wa.heap.size wa (wa.alloc (.cells #[.string t, .int .i64 id] 53)) from (Below.refl _ _).alloc (Nat.le_refl _) _))
                have boA : w2.heap.size ≤ (wa.alloc (.cells #[.string t, .int .i64 id] 53)).heap.size := by simp; omega
                have CA := Lib.hid (cells_new2 wa (.string t) (.int .i64 id) 53)
                have HBA2 := Lib.hid (HBA.out.alloc hza (.cells #[.string t, .int .i64 id] 53))
                clear dq
                go_wp2_with (at_builtin; refine list_copy2 (by rfl) (.tmp 60) (.tmp 62) 25 (by rfl) w2.heap.size 53 i0 (.agg #[.string { data := #[] }, .int .i64 0]) 2 24 Tryz.underlying25 hi hz0 hz1 hz2 (by rfl) (by decide) _ q (cellsE out) HOA.out boA ⟨wa.heap.size, 0, none⟩ 1 1 [.string t, .int .i64 id] CA.out (two_one _ _) (by decide) bn bm (by rfl) (by rfl) ?_; intro v4 w4 hown4 hg4 hf4; obtain ⟨a4, c4, rfl, _, _⟩ := own_shape hown4)
                have HO4 := Lib.hid (show w4.ownsRow w2.heap.size 53 2 (.slice a4 (q + 1) c4) (q + 1) (cellsE (out ++ [(t, id)])) by rw [cellsE_app]; exact hown4)
                have HB4 := Lib.hid (HBA2.out.grown hg4 boA (fun g hg => (own_block_ge HOA.out g hg).1))
                refine ⟨?rel, ?measure⟩
                case rel =>
                  first
                    | exact ⟨_, c6, j, q + 1, k + 1, a4, c4, out ++ [(t, id)], hj, by have := HR.out; first | rfl | (congr 1), by have := HR.out; omega, Lib.hid (by have h1 := HR.out; rw [← h1]; exact hat6.out), by omega, by go_num, rfl, HO4, HF2, HB4⟩
                    | (iterate 100 (try apply Exists.intro)
                       refine ⟨?r2, rfl⟩
                       exact ⟨_, c6, j, q + 1, k + 1, a4, c4, out ++ [(t, id)], hj, by have := HR.out; first | rfl | (congr 1), by have := HR.out; omega, Lib.hid (by have h1 := HR.out; rw [← h1]; exact hat6.out), by omega, by go_num, rfl, HO4, HF2, HB4⟩)
                case measure => simp [intOf]; omega
            · obtain rfl : r = 0 := by omega
              have g0 : ¬ (0 : Int) < ((0 : Nat) : Int) := by simp
              have HF2 := Lib.hid (show l = (out ++ [(t, id)]) ++ ordGo (entAt l) (old.drop (k + 1)) (fs.drop j) by
                have := hf.out
                rw [ordIn_end (by have := HR.out; omega)] at this
                rw [List.append_assoc]
                exact this)
              clear hf
              have hol : out.length + 1 ≤ l.length := by
                have := congrArg List.length HF2.out
                rw [List.length_append, List.length_append, List.length_singleton] at this
                omega
              have bn : q + 1 ≤ maxLen := by unfold maxLen; omega
              have bm : (q + 1) * 24 ≤ 140737488355328 := by omega
              clear hol hq
              go_wp2
              go_quiet (fail)
              obtain ⟨wa, hwa⟩ : ∃ wa, wa = wr.drewN nq := ⟨_, rfl⟩
              have dq := drew_facts hwa
              rw [← hwa]
              clear hwa
              have HDQ := Lib.hid dq
              have HBA := Lib.hid (hb.out.trans (dq.mono hzx))
              have hza : w2.heap.size ≤ wa.heap.size := Nat.le_trans hzx dq.size
              replace e0 := (dq.cell (p := ⟨wo.heap.size, 0, none⟩) hbl).trans e0
              replace e1 := (dq.cell (p := ⟨wo.heap.size, 1, none⟩) hbl).trans e1
              have HOA := Lib.hid (own_below (own_below hown.out dq) (show Below wa.heap.size wa (wa.alloc (.cells #[.string t, .int .i64 id] 53)) from (Below.refl _ _).alloc (Nat.le_refl _) _))
              have boA : w2.heap.size ≤ (wa.alloc (.cells #[.string t, .int .i64 id] 53)).heap.size := by simp; omega
              have CA := Lib.hid (cells_new2 wa (.string t) (.int .i64 id) 53)
              have HBA2 := Lib.hid (HBA.out.alloc hza (.cells #[.string t, .int .i64 id] 53))
              clear dq
              go_wp2_with (at_builtin; refine list_copy2 (by rfl) (.tmp 60) (.tmp 62) 25 (by rfl) w2.heap.size 53 i0 (.agg #[.string { data := #[] }, .int .i64 0]) 2 24 Tryz.underlying25 hi hz0 hz1 hz2 (by rfl) (by decide) _ q (cellsE out) HOA.out boA ⟨wa.heap.size, 0, none⟩ 1 1 [.string t, .int .i64 id] CA.out (two_one _ _) (by decide) bn bm (by rfl) (by rfl) ?_; intro v4 w4 hown4 hg4 hf4; obtain ⟨a4, c4, rfl, _, _⟩ := own_shape hown4)
              have HO4 := Lib.hid (show w4.ownsRow w2.heap.size 53 2 (.slice a4 (q + 1) c4) (q + 1) (cellsE (out ++ [(t, id)])) by rw [cellsE_app]; exact hown4)
              have HB4 := Lib.hid (HBA2.out.grown hg4 boA (fun g hg => (own_block_ge HOA.out g hg).1))
              refine ⟨?rel, ?measure⟩
              case rel =>
                first
                  | exact ⟨_, c6, j, q + 1, k + 1, a4, c4, out ++ [(t, id)], hj, by have := HR.out; first | rfl | (congr 1), by have := HR.out; omega, Lib.hid (by have h1 := HR.out; rw [← h1]; exact hat6.out), by omega, by go_num, rfl, HO4, HF2, HB4⟩
                  | (iterate 100 (try apply Exists.intro)
                     refine ⟨?r2, rfl⟩
                     exact ⟨_, c6, j, q + 1, k + 1, a4, c4, out ++ [(t, id)], hj, by have := HR.out; first | rfl | (congr 1), by have := HR.out; omega, Lib.hid (by have h1 := HR.out; rw [← h1]; exact hat6.out), by omega, by go_num, rfl, HO4, HF2, HB4⟩)
              case measure => simp [intOf]; omega
    · obtain rfl : k = n := by omega
      have HE := Lib.hid (show l = out ++ fs.drop j by have := hf.out; rw [ordGo_end (by omega)] at this; exact this)
      have hq := out_len hown.out
      have hlo2 : out.length + (fs.length - j) = l.length := by
        have := congrArg List.length HE.out
        rw [List.length_append, List.length_drop] at this
        omega
      have bn : q + (fs.length - j) ≤ maxLen := by unfold maxLen; omega
      have bm : (q + (fs.length - j)) * 24 ≤ 140737488355328 := by omega
      have C6 := Lib.hid (show Cells wo a6 (fs.length - j) 2 (cellsE (fs.drop j)) from hat6.out.below hb.out)
      have HO := hown
      have hbz := hb.out.size
      clear hq hlo2 hown hf
      go_wp2_with (at_builtin; refine list_copy (by rfl) (.tmp 65) (.tmp 66) 25 (by rfl) w2.heap.size 53 i0 (.agg #[.string { data := #[] }, .int .i64 0]) 2 24 Tryz.underlying25 hi hz0 hz1 hz2 (by rfl) (by decide) _ q (cellsE out) HO.out hbz a6 (fs.length - j) c6 (cellsE (fs.drop j)) C6.out (oneE _) bn bm (by rfl) (by rfl) ?_; intro v3 w3 hown3 hg3)
      obtain ⟨a3, c3, rfl, _, _⟩ := own_shape hown3
      have HG := Lib.hid (HB2.out.trans ((hb.out.grown hg3 hbz (fun g hg => (own_block_ge HO.out g hg).1)).mono hwz))
      have HR := Lib.hid (show w3.ownsRow w.heap.size 53 2 (.slice a3 (q + (fs.length - j)) c3) (q + (fs.length - j)) (cellsE l) by rw [HE.out, cellsE_app]; exact own_base hown3 hwz)
      clear hown3 hg3
      go_ret
      exact ⟨_, rfl, ⟨_, HR.out⟩, HG.out⟩

end Go.Proofs.YtdacdbidennjhaaGreatDoor.ik

namespace Go.Proofs.YtdacdbidennjhaaGreatDoor.ik
open Go.RowKit Go.Maps Go.WideMaps
open kit strs recs disk deed kd

theorem implBrought (n : Int) (m : Nat) (w : World) :
    Calls Tryz.prog 89 #[.int .i64 n, .int .i64 0, .int .i64 m] w fun e w' => e = .returned (.int .i64 (clampN n m : Nat)) ∧ w = w' := by
  have hm : ¬ (m : Int) < 0 := by omega
  by_cases h0 : n < 0
  · have HE := Lib.hid (show clampN n m = 0 by unfold clampN; rw [if_pos h0])
    go_enter Tryz.func89, Tryz.ntmps89
    go_wp2
    go_ret
    exact ⟨by rw [HE.out]; rfl, rfl⟩
  · by_cases h1 : (m : Int) < n
    · have HE := Lib.hid (show clampN n m = m by unfold clampN; rw [if_neg h0, if_pos h1])
      go_enter Tryz.func89, Tryz.ntmps89
      go_wp2
      go_ret
      exact ⟨by rw [HE.out]; rfl, rfl⟩
    · have HE := Lib.hid (show ((clampN n m : Nat) : Int) = n by unfold clampN; rw [if_neg h0, if_neg h1]; omega)
      go_enter Tryz.func89, Tryz.ntmps89
      go_wp2
      go_ret
      exact ⟨by rw [HE.out]; rfl, rfl⟩

set_option maxHeartbeats 4000000 in
set_option maxRecDepth 100000 in
theorem implStepsDone (a b : Option Addr) (n c m e : Nat) (xs : List Ent) (ss : List ByteArray) (num : Int) (w : World) (hn : n ≤ 1000000) (hm : m ≤ 1000000) (hme : m ≤ e) (hz : ∀ s ∈ ss, s.size ≤ 1048576) (ha : AtE w a n xs) (hb : strs.At w b m ss) (hw : recs.wfE xs) (hs : Srt xs) (hk : Nok xs) (hg : GD w) :
    Calls Tryz.prog 26 #[.slice a n c, .slice b m e, .int .i64 num] w (StepsR (stepsDone xs ss num) w) := by
  have HA := Lib.hid ha
  have HB := Lib.hid hb
  have HZ := Lib.hid hz
  have HG := Lib.hid hg
  have HW := Lib.hid hw
  have HS := Lib.hid hs
  have HNK := Lib.hid hk
  have hbl := hb.1
  have hal := ha.len
  obtain ⟨N, hN⟩ : ∃ N, clampN num m = N := ⟨_, rfl⟩
  have hNm : N ≤ m := by rw [← hN]; exact clampN_le _ _
  have HR := Lib.hid (show stepsDone xs ss num = stepsTo xs (ss.take N) by unfold stepsDone; rw [hbl, hN])
  have CB := Lib.hid (fun w1 => implBrought num m w1)
  rw [hN] at CB
  have n0 : (0 : Int) ≤ (N : Int) := by omega
  have n1 : (N : Int) ≤ (e : Int) := by omega
  have n2 : (N : Int) ≤ (m : Int) := by omega
  clear ha hb hz hg hw hs hk hN
  go_enter Tryz.func26, Tryz.ntmps26
  go_wp2_with (fail)
  refine (implNames a c n xs w (by omega) HA.out HW.out HS.out).mono ?_
  rintro e1 w1 ⟨b1, rfl, hm1, hlo, hb1⟩
  have HM1 := Lib.hid hm1
  have HB1 := Lib.hid hb1
  clear hm1 hb1
  go_wp2_with (fail)
  refine (CB.out _).mono ?_
  rintro e2 w2 ⟨rfl, rfl⟩
  go_wp2
  go_loopw [10, 20] (fun _ i wr => ∃ (k : Nat) (l : List Ent), k ≤ N ∧ i = .int .i64 k ∧ Hid (stepsTo xs (ss.take k) = some l) ∧ Hid (Nok l) ∧ Hid (MapE wr b1 (n + k) l) ∧ Hid (Below w.heap.size w wr)) (fun _ i _ => N - (intOf i).toNat)
  case atStart => exact ⟨0, xs, Nat.zero_le _, rfl, Lib.hid rfl, HNK, HM1, HB1⟩
  case round =>
    obtain ⟨k, l, hk, rfl, hf, hnk, hmk, hbk⟩ := hrel
    by_cases hlt : k < N
    · obtain ⟨s, g, o, hx, rfl, hgs, c1⟩ := strAt (HB.out.below hbk.out) (show k < m by omega)
      have hss := HZ.out s (List.mem_of_getElem? hx)
      have j0 : (0 : Int) ≤ (k : Int) := by omega
      have j1 : (k : Int) < (N : Int) := by omega
      have HT := Lib.hid (show stepsTo xs (ss.take (k + 1)) = doStep l s by rw [stepsTo_snoc hx, hf.out]; rfl)
      have hsl : Srt l := hmk.out.srt
      have hbz := hbk.out.size
      clear hx
      go_wp2_with (fail)
      refine (implStep b1 (n + k) l s wr hss (by omega) hmk.out hnk.out (HG.out.below hbk.out)).mono ?_
      rintro e3 w3 ⟨rfl, hm3, hg3⟩
      have HB3 := Lib.hid (hbk.out.grown hg3 hbz (fun j e => by cases e; omega))
      cases hd : doStep l s with
      | none =>
        have HF := Lib.hid (show stepsDone xs ss num = none by rw [HR.out]; exact stepsTo_none (HT.out.trans hd) (by omega))
        clear hd hm3 hg3
        go_wp2
        refine bodyPost_ret (v := .tuple #[.slice none 0 0, .bool false]) (by simp [results, Tryz.results26, go_sem]) rfl ⟨_, by rw [HF.out]; rfl, by rw [HF.out]; exact ⟨0, World.ownsRow_nil _ _ _ _⟩, HB3.out⟩
      | some l' =>
        rw [hd] at hm3
        have HM3 := Lib.hid (show MapE w3 b1 (n + k + 1) l' from hm3)
        have HT2 := Lib.hid (HT.out.trans hd)
        have HN3 := Lib.hid (doStep_keeps hsl hnk.out hd).2
        clear hd hm3 hg3
        go_wp2
        refine ⟨?rel, ?measure⟩
        case rel =>
          first
            | exact ⟨k + 1, l', by omega, by go_num, HT2, HN3, HM3, HB3⟩
            | (iterate 100 (try apply Exists.intro)
               refine ⟨?r2, rfl⟩
               exact ⟨k + 1, l', by omega, by go_num, HT2, HN3, HM3, HB3⟩)
        case measure => simp [intOf]; omega
    · obtain rfl : k = N := by omega
      have HL := Lib.hid (hmk.out.len)
      have hbz := hbk.out.size
      clear hlt
      go_wp2_with (fail)
      refine (implInOrder a c n b1 (n + k) xs l wr (by omega) (by omega) (HA.out.below hbk.out) HW.out HS.out hmk.out).mono ?_
      rintro e4 w4 ⟨u4, rfl, ho4, hb4⟩
      have HO4 := Lib.hid (ho4.base hbz)
      have HB4 := Lib.hid (hbk.out.trans (hb4.mono hbz))
      have HF := Lib.hid (show stepsDone xs ss num = some l by rw [HR.out]; exact hf.out)
      clear ho4 hb4
      go_wp2
      refine bodyPost_ret (v := .tuple #[u4, .bool true]) (by simp [results, Tryz.results26, go_sem]) rfl ⟨_, by rw [HF.out]; rfl, by rw [HF.out]; exact HO4.out, HB4.out⟩

end Go.Proofs.YtdacdbidennjhaaGreatDoor.ik
