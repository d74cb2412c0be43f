/-
  Contract of spec.DiskOk.
-/
import Derived.Test.YtnhcianahmfdhaaGreatDoorDpE
import Derived.Test.YtnhcianahmfdhaaGreatDoorIn
namespace Go.Proofs.YtnhcianahmfdhaaGreatDoor.deed
open Go.RowKit
open kit strs recs disk kd

/-- Well-formed, and a little more than a law lets in: what a deed adds has room. -/
def okL (d : D) : Prop := wfD d ∧ bulk d ≤ 1500000
theorem okD.loose {d : D} (h : okD d) : okL d := ⟨h.1, by have := h.2; omega⟩
theorem usedL_le {d : D} (h : bulk d ≤ 1500000) : usedOn d ≤ 1500000 := by unfold bulk bulkN at h; unfold usedOn; omega
theorem okL_lens {d : D} (h : okL d) : d.nodes.length ≤ 1500000 ∧ d.ents.length ≤ 1500000 ∧ d.old.length ≤ 1500000 ∧ d.steps.length ≤ 1500000 := by
  have h := h.2
  unfold bulk bulkN bulkE at h
  simp only [List.length_map] at h
  omega
theorem in_yes' (x least most : Int) (W : World) (h1 : least ≤ x) (h2 : x ≤ most) (y : Later W) :
    Calls Tryz.prog 29 #[.int .i64 x, .int .i64 least, .int .i64 most] y.val fun e w'' => e = .returned (.bool true) ∧ ∃ z : Later W, w'' = z.val := Calls.later_same (in_yes x least most y.val h1 h2)
theorem in_no' (x least most : Int) (W : World) (h : x < least ∨ most < x) (y : Later W) :
    Calls Tryz.prog 29 #[.int .i64 x, .int .i64 least, .int .i64 most] y.val fun e w'' => e = .returned (.bool false) ∧ ∃ z : Later W, w'' = z.val := Calls.later_same (in_no x least most y.val h)
theorem nodes_step {next : Int} {l : List Nod} {k : Nat} {p : Option Int} {n : Nod} (hx : l[k]? = some n) :
    nodesFrom next p (l.drop k) = (decide (1 ≤ n.1 ∧ n.1 ≤ next - 1) && (match p with | none => true | some q => decide (q < n.1)) && decide (0 ≤ n.2.2 ∧ n.2.2 ≤ (n.2.1.size : Int)) && nodesFrom next (some n.1) (l.drop (k + 1))) := by rw [drop_cons hx]; rfl
def aheadN (l : List Nod) (k : Nat) : Option Int := if k = 0 then none else (l[k - 1]?).map (·.1)
theorem aheadN_next {l : List Nod} {k : Nat} {n : Nod} (hx : l[k]? = some n) : aheadN l (k + 1) = some n.1 := by unfold aheadN; rw [if_neg (by omega), Nat.add_sub_cancel, hx]; rfl
theorem all_range_snoc (f : Nat → Bool) (k : Nat) : (List.range (k + 1)).all f = ((List.range k).all f && f k) := by rw [List.range_succ, List.all_append]; simp
theorem all_range_false {f : Nat → Bool} {k n : Nat} (h : f k = false) (hk : k < n) : (List.range n).all f = false := by
  rw [List.all_eq_false]
  exact ⟨k, List.mem_range.2 hk, by simp [h]⟩
theorem disk_head {d : D} (h : okHead d = false) : diskOk d = false := by unfold diskOk; rw [h]; rfl
theorem disk_nodes {d : D} (h : nodesFrom d.next none d.nodes = false) : diskOk d = false := by unfold diskOk; rw [h]; simp
theorem disk_hist {d : D} (h : okHist d = false) : diskOk d = false := by unfold diskOk; rw [h]; simp

theorem putTo_mem {e x : Ent} {xs : List Ent} : x ∈ (putTo e xs).1 → x = e ∨ x ∈ xs := by
  have : ∀ (xs : List Ent) (st : List Ent × Bool), x ∈ (xs.foldl (putStep e) st).1 → x = e ∨ x ∈ xs ∨ x ∈ st.1 := by
    intro xs
    induction xs with
    | nil => intro st h; exact .inr (.inr h)
    | cons y r ih =>
      intro st h
      rw [List.foldl_cons] at h
      rcases ih _ h with h | h | h
      · exact .inl h
      · exact .inr (.inl (List.mem_cons_of_mem _ h))
      · have hs : x = e ∨ x = y ∨ x ∈ st.1 := by
          unfold putStep at h
          split at h
          · split at h
            · simp at h; rcases h with h | h; exact .inr (.inr h); exact .inl h
            · simp at h; rcases h with h | h | h; exact .inr (.inr h); exact .inl h; exact .inr (.inl h)
          · split at h
            · exact .inr (.inr h)
            · simp at h; rcases h with h | h; exact .inr (.inr h); exact .inr (.inl h)
        rcases hs with h | h | h
        · exact .inl h
        · exact .inr (.inl (by rw [h]; exact List.mem_cons_self))
        · exact .inr (.inr h)
  intro h
  rcases this xs ([], false) h with h | h | h
  · exact .inl h
  · exact .inr h
  · cases h
theorem putE_mem {e x : Ent} {xs : List Ent} (h : x ∈ putE xs e) : x = e ∨ x ∈ xs := by
  unfold putE at h
  split at h
  · exact putTo_mem h
  · rcases List.mem_append.1 h with h | h
    · exact putTo_mem h
    · exact .inl (by simpa using h)
theorem doStep_small {l l' : List Ent} {s : ByteArray} {B : Nat} (h : doStep l s = some l') (hl : ∀ e ∈ l, e.1.size ≤ B) (hs : s.size ≤ B) : ∀ e ∈ l', e.1.size ≤ B := by
  have hz := said_sizes s
  have hd : ∀ e ∈ dropE l (saidOf s).name, e.1.size ≤ B := fun e he => hl e (List.mem_filter.1 he).1
  unfold doStep at h
  split at h
  · cases h
  · split at h
    · cases h
      intro e he
      rcases putE_mem he with rfl | he
      · dsimp only; omega
      · exact hl e he
    · split at h
      · cases h
      · split at h
        · cases h
          intro e he
          rcases putE_mem he with rfl | he
          · dsimp only; omega
          · exact hd e he
        · cases h
          exact hd
theorem stepsTo_small : ∀ (xs : List ByteArray) (l l' : List Ent) (B : Nat), stepsTo l xs = some l' → (∀ e ∈ l, e.1.size ≤ B) → (∀ s ∈ xs, s.size ≤ B) → ∀ e ∈ l', e.1.size ≤ B
  | [], l, l', B, h, hl, _ => by cases h; exact hl
  | s :: r, l, l', B, h, hl, hs => by
    simp only [stepsTo] at h
    cases h1 : doStep l s with
    | none => rw [h1] at h; cases h
    | some l1 =>
      rw [h1] at h
      exact stepsTo_small r l1 l' B h (doStep_small h1 hl (hs s List.mem_cons_self)) (fun s hs' => hs s (List.mem_cons_of_mem _ hs'))
theorem step_small {d : D} (h : okL d) : ∀ s ∈ d.steps, s.size ≤ 1000000000 := by
  intro s hs
  have h := h.2
  have := tot_each d.steps s hs
  unfold bulk at h
  omega
theorem hist_length {d : D} {k : Nat} {l : List Ent} (h : okL d) (hl : some l = histAt d k) : l.length ≤ 3000000 := by
  have h1 := stepsTo_length _ _ _ hl.symm
  have h2 := okL_lens h
  rw [List.length_take] at h1
  omega
theorem hist_small {d : D} {k : Nat} {l : List Ent} (h : okL d) (hl : some l = histAt d k) : ∀ e ∈ l, e.1.size ≤ 9223372036854775807 :=
  stepsTo_small _ _ _ _ hl.symm (fun e he => by have := (h.1.2.2.1 e he).1; unfold maxLen at this; omega) (fun s hs => by have := step_small h s (List.mem_of_mem_take hs); omega)

set_option maxHeartbeats 16000000 in
set_option maxRecDepth 100000 in
theorem specDiskOk (v : Value) (d : D) (w : World) (hk : okL d) (hv : IsDisk w v d) :
    Calls Tryz.prog 8 #[v] w fun e w' => e = .returned (.bool (diskOk d)) ∧ Below w.heap.size w w' := by
  have hv0 := hv
  obtain ⟨l1, l2, l3, l4⟩ := okL_lens hk
  obtain ⟨aN, aE, aO, aS, nN, cN, nE, cE, nO, cO, nS, cS, rfl, hN, hE, hO, hSt⟩ := hv
  rw [hN.len] at l1
  rw [hE.len] at l2
  rw [hO.len] at l3
  rw [hSt.1] at l4
  obtain ⟨W, hW⟩ : ∃ W, W = w.alloc (.cells #[.slice aN nN cN, .slice aE nE cE, .slice aO nO cO, .slice aS nS cS, .int .i64 d.room, .int .i64 d.next] 28) := ⟨_, rfl⟩
  have hWB : Below w.heap.size w W := by rw [hW]; exact (Below.refl _ _).alloc (Nat.le_refl _) _
  have bx := show disk.Box W w.heap.size [.slice aN nN cN, .slice aE nE cE, .slice aO nO cO, .slice aS nS cS, .int .i64 d.room, .int .i64 d.next] from by rw [hW]; exact Box.new _ _ _
  have BX := Lib.hid bx
  have HV := Lib.hid (hv0.below hWB)
  have HN := Lib.hid (hN.below hWB)
  have HE := Lib.hid (hE.below hWB)
  have HO := Lib.hid (hO.below hWB)
  have HS := Lib.hid (hSt.below hWB)
  have HL := Lib.hid (show d.nodes.length = nN ∧ d.steps.length = nS from ⟨hN.len, hSt.1⟩)
  have HB := Lib.hid hWB
  have HK := Lib.hid hk
  have y0 := Later.cell (bx.at 0 _ rfl) bx.1
  have y1 := Later.cell (bx.at 1 _ rfl) bx.1
  have y2 := Later.cell (bx.at 2 _ rfl) bx.1
  have y3 := Later.cell (bx.at 3 _ rfl) bx.1
  have y4 := Later.cell (bx.at 4 _ rfl) bx.1
  have y5 := Later.cell (bx.at 5 _ rfl) bx.1
  have CU := Lib.hid (fun (x : Later W) => specUsedOn _ d x.val (by have := usedL_le hk.2; omega) hk.1 (HV.out.below x.2))
  clear hN hE hO hSt hv0 hWB bx hk
  go_enter Tryz.func8, Tryz.ntmps8
  go_wp2
  rw [← hW]
  clear hW
  by_cases c1 : 64 < nN
  · have HZ := Lib.hid (disk_head (d := d) (by unfold okHead; rw [HL.out.1]; simp; omega))
    have c1' : decide ((64 : Int) < (nN : Int)) = true := by simp; omega
    have c1'' : decide (64 < nN) = true := by simp; omega
    refine wp_region_later (by kernel_rfl) (by kernel_rfl) ?_
    repeat (first | go_big_quiet_skip | (go_big_quiet_want; go_big_quiet_op; first | go_big_quiet_on | fail))
    refine wpQuiet_nil ?_
    rintro w2 ⟨x2, hx2⟩
    have hb2 : Below W.heap.size W w2 := hx2 ▸ x2.2
    clear hx2 x2
    go_wp2
    go_ret
    exact ⟨by rw [HZ.out]; rfl, HB.out.trans (hb2.mono HB.out.size)⟩
  · have c1' : decide ((64 : Int) < (nN : Int)) = false := by simp; omega
    have c1'' : decide (64 < nN) = false := by simp; omega
    by_cases c2 : 0 ≤ d.room ∧ d.room ≤ 1000000000
    · have C2 := Lib.hid c2
      by_cases c3 : 1 ≤ d.next ∧ d.next ≤ 1000000000
      · have C3 := Lib.hid c3
        by_cases c4 : (usedOn d : Int) ≤ d.room
        · have HH := Lib.hid (show okHead d = true by unfold okHead; rw [HL.out.1]; simp; omega)
          have c4' : decide (d.room < ((usedOn d : Nat) : Int)) = false := by simp; omega
          clear c4 c2 c3
          refine wp_region_later (by kernel_rfl) (by kernel_rfl) ?_
          repeat (first | go_big_quiet_skip | (go_big_quiet_want; go_big_quiet_op; first | go_big_quiet_on | (apply Exists.intro; refine ⟨fun x => ?_, ?_⟩; (first | (go_at_call 29; (with_reducible exact in_yes' d.room 0 1000000000 W C2.out.1 C2.out.2 x)) | (go_at_call 29; (with_reducible exact in_yes' d.next 1 1000000000 W C3.out.1 C3.out.2 x)) | (go_at_call 19; exact Calls.later (CU.out x))); go_big_quiet_on)))
          refine wpQuiet_nil ?_
          rintro w2 ⟨x2, hx2⟩
          have hb2 : Below W.heap.size W w2 := hx2 ▸ x2.2
          clear hx2 x2
          have HBW := Lib.hid hb2
          clear y0 y1 y2 y3 y4 y5 c4' c1' c1'' hb2
          go_wp2
          go_loopw [3] (fun i wr => ∃ k : Nat, k ≤ nN ∧ i = .int .i64 k ∧ Hid (nodesFrom d.next none d.nodes = nodesFrom d.next (aheadN d.nodes k) (d.nodes.drop k)) ∧ Below W.heap.size W wr) (fun i _ => nN - (intOf i).toNat)
          case atStart => exact ⟨0, Nat.zero_le _, rfl, Lib.hid rfl, HBW.out⟩
          case round =>
            clear HBW
            obtain ⟨k, hk, rfl, hf, hb⟩ := hrel
            have bx := BX.out.below hb
            by_cases hlt : k < nN
            · obtain ⟨i, t, j, g, o, hx, rfl, hg, e1, e2, e3⟩ := (HN.out.below hb).get hlt
              have HF := Lib.hid (hf.out.trans (nodes_step hx))
              have j0 : (0 : Int) ≤ (k : Int) := by omega
              have j1 : (k : Int) < (nN : Int) := by omega
              obtain ⟨W1, hW1⟩ : ∃ W1, W1 = wr.alloc (.cells #[.int .i64 i, .string t, .int .i64 j] 38) := ⟨_, rfl⟩
              have hr1 : Below wr.heap.size wr W1 := by rw [hW1]; exact (Below.refl _ _).alloc (Nat.le_refl _) _
              have nb := show disk.Box W1 wr.heap.size [.int .i64 i, .string t, .int .i64 j] from by rw [hW1]; exact Box.new _ _ _
              have bx1 := bx.below hr1
              have n0 := Later.cell (nb.at 0 _ rfl) nb.1
              have n1 := Later.cell (nb.at 1 _ rfl) nb.1
              have n2 := Later.cell (nb.at 2 _ rfl) nb.1
              have y0 := Later.cell (bx1.at 0 _ rfl) bx1.1
              have y5 := Later.cell (bx1.at 5 _ rfl) bx1.1
              have x0 := bx.at 0 _ rfl
              have HBr := Lib.hid (hb.trans (hr1.mono hb.size))
              have wN : IntKind.i64.wrap (d.next - 1) = d.next - 1 := IntWalk.i64_in _ (by have := C3.out; omega)
              have h1r := hr1.size
              have hsz : HB.out.size = HB.out.size := rfl
              have HR1 := Lib.hid hr1
              clear hr1 nb bx1 hsz
              by_cases a1 : 1 ≤ i ∧ i ≤ d.next - 1
              · have A1 := Lib.hid a1
                by_cases a3 : 0 ≤ j ∧ j ≤ (t.size : Int)
                · have A3 := Lib.hid a3
                  by_cases hk0 : k = 0
                  · have HT := Lib.hid (show nodesFrom d.next none d.nodes = nodesFrom d.next (aheadN d.nodes (k + 1)) (d.nodes.drop (k + 1)) by rw [HF.out, aheadN_next hx]; simp only [aheadN, hk0, if_true]; simp [a1, a3])
                    have k0 : decide (0 < k) = false := by simp [hk0]
                    clear hx HF hf hk0 a1 a3
                    go_wp2
                    rw [← hW1]
                    clear hW1
                    refine wp_region_later (by kernel_rfl) (by kernel_rfl) ?_
                    repeat (first | go_big_quiet_skip | (go_big_quiet_want; go_big_quiet_op; first | go_big_quiet_on | (apply Exists.intro; refine ⟨fun x => ?_, ?_⟩; (first | (go_at_call 29; (with_reducible exact in_yes' i 1 (d.next - 1) W1 A1.out.1 A1.out.2 x)) | (go_at_call 29; (with_reducible exact in_yes' j 0 (t.size : Int) W1 A3.out.1 A3.out.2 x))); go_big_quiet_on)))
                    refine wpQuiet_nil ?_
                    rintro w3 ⟨x2, hx2⟩
                    have hb3 : Below W1.heap.size W1 w3 := hx2 ▸ x2.2
                    clear hx2 x2
                    go_wp2
                    go_roundw
                    case rel => exact ⟨k + 1, by omega, by go_num, HT, HBr.out.trans (hb3.mono HBr.out.size)⟩
                    case measure => simp [intOf]; omega
                  · obtain ⟨q, hq⟩ : ∃ q, k = q + 1 := ⟨k - 1, by omega⟩
                    obtain ⟨pi, pt, pj, g', o', hxp, ha', _, f1, _, _⟩ := (HN.out.below hb).get (show q < nN by omega)
                    obtain ⟨rfl, rfl⟩ : g = g' ∧ o = o' := by simpa using ha'
                    have w1 := Later.cell (show W1.cell? ⟨g, o + q * 3, none⟩ = some (.int .i64 pi) from (HR1.out.cell (p := ⟨g, o + q * 3, none⟩) hg).trans f1) (by omega)
                    have hah : aheadN d.nodes k = some pi := by rw [hq]; exact aheadN_next hxp
                    have q0 : (0 : Int) ≤ (q : Int) := by omega
                    have q1 : (q : Int) < (nN : Int) := by omega
                    have q2 : decide (0 < k) = true := by simp; omega
                    have qw : IntKind.i64.wrap ((k : Int) - 1) = (q : Int) := by rw [show (k : Int) - 1 = (q : Int) by omega]; exact IntWalk.i64_in _ (by omega)
                    by_cases a2 : pi < i
                    · have HT := Lib.hid (show nodesFrom d.next none d.nodes = nodesFrom d.next (aheadN d.nodes (k + 1)) (d.nodes.drop (k + 1)) by rw [HF.out, aheadN_next hx, hah]; simp [a1, a2, a3])
                      have p2 : decide (i ≤ pi) = false := by simp; omega
                      clear hx HF hf hk0 a1 a2 a3 hah hxp ha' f1 hq
                      go_wp2
                      rw [← hW1]
                      clear hW1
                      refine wp_region_later (by kernel_rfl) (by kernel_rfl) ?_
                      repeat (first | go_big_quiet_skip | (go_big_quiet_want; go_big_quiet_op; first | go_big_quiet_on | (apply Exists.intro; refine ⟨fun x => ?_, ?_⟩; (first | (go_at_call 29; (with_reducible exact in_yes' i 1 (d.next - 1) W1 A1.out.1 A1.out.2 x)) | (go_at_call 29; (with_reducible exact in_yes' j 0 (t.size : Int) W1 A3.out.1 A3.out.2 x))); go_big_quiet_on)))
                      refine wpQuiet_nil ?_
                      rintro w3 ⟨x2, hx2⟩
                      have hb3 : Below W1.heap.size W1 w3 := hx2 ▸ x2.2
                      clear hx2 x2
                      go_wp2
                      go_roundw
                      case rel => exact ⟨k + 1, by omega, by go_num, HT, HBr.out.trans (hb3.mono HBr.out.size)⟩
                      case measure => simp [intOf]; omega
                    · have HZ := Lib.hid (disk_nodes (d := d) (by rw [HF.out, hah]; simp [a2]))
                      have p2 : decide (i ≤ pi) = true := by simp; omega
                      clear hx HF hf hk0 a1 a2 a3 hah hxp ha' f1 hq
                      go_wp2
                      rw [← hW1]
                      clear hW1
                      refine wp_region_later (by kernel_rfl) (by kernel_rfl) ?_
                      repeat (first | go_big_quiet_skip | (go_big_quiet_want; go_big_quiet_op; first | go_big_quiet_on | (apply Exists.intro; refine ⟨fun x => ?_, ?_⟩; (first | (go_at_call 29; (with_reducible exact in_yes' i 1 (d.next - 1) W1 A1.out.1 A1.out.2 x))); go_big_quiet_on)))
                      refine wpQuiet_nil ?_
                      rintro w3 ⟨x2, hx2⟩
                      have hb3 : Below W1.heap.size W1 w3 := hx2 ▸ x2.2
                      clear hx2 x2
                      go_wp2
                      go_ret
                      exact ⟨by rw [HZ.out]; rfl, HB.out.trans ((HBr.out.trans (hb3.mono HBr.out.size)).mono HB.out.size)⟩
                · have HZ := Lib.hid (disk_nodes (d := d) (by rw [HF.out]; simp [a3]))
                  have p3 : j < 0 ∨ (t.size : Int) < j := by omega
                  by_cases hk0 : k = 0
                  · have k0 : decide (0 < k) = false := by simp [hk0]
                    clear hx HF hf hk0 a1 a3
                    go_wp2
                    rw [← hW1]
                    clear hW1
                    refine wp_region_later (by kernel_rfl) (by kernel_rfl) ?_
                    repeat (first | go_big_quiet_skip | (go_big_quiet_want; go_big_quiet_op; first | go_big_quiet_on | (apply Exists.intro; refine ⟨fun x => ?_, ?_⟩; (first | (go_at_call 29; (with_reducible exact in_yes' i 1 (d.next - 1) W1 A1.out.1 A1.out.2 x)) | (go_at_call 29; (with_reducible exact in_no' j 0 (t.size : Int) W1 p3 x))); go_big_quiet_on)))
                    refine wpQuiet_nil ?_
                    rintro w3 ⟨x2, hx2⟩
                    have hb3 : Below W1.heap.size W1 w3 := hx2 ▸ x2.2
                    clear hx2 x2
                    go_wp2
                    go_ret
                    exact ⟨by rw [HZ.out]; rfl, HB.out.trans ((HBr.out.trans (hb3.mono HBr.out.size)).mono HB.out.size)⟩
                  · obtain ⟨q, hq⟩ : ∃ q, k = q + 1 := ⟨k - 1, by omega⟩
                    obtain ⟨pi, pt, pj, g', o', hxp, ha', _, f1, _, _⟩ := (HN.out.below hb).get (show q < nN by omega)
                    obtain ⟨rfl, rfl⟩ : g = g' ∧ o = o' := by simpa using ha'
                    have w1 := Later.cell (show W1.cell? ⟨g, o + q * 3, none⟩ = some (.int .i64 pi) from (HR1.out.cell (p := ⟨g, o + q * 3, none⟩) hg).trans f1) (by omega)
                    have q0 : (0 : Int) ≤ (q : Int) := by omega
                    have q1 : (q : Int) < (nN : Int) := by omega
                    have q2 : decide (0 < k) = true := by simp; omega
                    have qw : IntKind.i64.wrap ((k : Int) - 1) = (q : Int) := by rw [show (k : Int) - 1 = (q : Int) by omega]; exact IntWalk.i64_in _ (by omega)
                    cases p2 : decide (i ≤ pi) with
                    | true =>
                      clear hx HF hf hk0 a1 a3 hxp ha' f1 hq
                      go_wp2
                      rw [← hW1]
                      clear hW1
                      refine wp_region_later (by kernel_rfl) (by kernel_rfl) ?_
                      repeat (first | go_big_quiet_skip | (go_big_quiet_want; go_big_quiet_op; first | go_big_quiet_on | (apply Exists.intro; refine ⟨fun x => ?_, ?_⟩; (first | (go_at_call 29; (with_reducible exact in_yes' i 1 (d.next - 1) W1 A1.out.1 A1.out.2 x))); go_big_quiet_on)))
                      refine wpQuiet_nil ?_
                      rintro w3 ⟨x2, hx2⟩
                      have hb3 : Below W1.heap.size W1 w3 := hx2 ▸ x2.2
                      clear hx2 x2
                      go_wp2
                      go_ret
                      exact ⟨by rw [HZ.out]; rfl, HB.out.trans ((HBr.out.trans (hb3.mono HBr.out.size)).mono HB.out.size)⟩
                    | false =>
                      clear hx HF hf hk0 a1 a3 hxp ha' f1 hq
                      go_wp2
                      rw [← hW1]
                      clear hW1
                      refine wp_region_later (by kernel_rfl) (by kernel_rfl) ?_
                      repeat (first | go_big_quiet_skip | (go_big_quiet_want; go_big_quiet_op; first | go_big_quiet_on | (apply Exists.intro; refine ⟨fun x => ?_, ?_⟩; (first | (go_at_call 29; (with_reducible exact in_yes' i 1 (d.next - 1) W1 A1.out.1 A1.out.2 x)) | (go_at_call 29; (with_reducible exact in_no' j 0 (t.size : Int) W1 p3 x))); go_big_quiet_on)))
                      refine wpQuiet_nil ?_
                      rintro w3 ⟨x2, hx2⟩
                      have hb3 : Below W1.heap.size W1 w3 := hx2 ▸ x2.2
                      clear hx2 x2
                      go_wp2
                      go_ret
                      exact ⟨by rw [HZ.out]; rfl, HB.out.trans ((HBr.out.trans (hb3.mono HBr.out.size)).mono HB.out.size)⟩
              · have HZ := Lib.hid (disk_nodes (d := d) (by rw [HF.out]; simp [a1]))
                have p1 : i < 1 ∨ d.next - 1 < i := by omega
                clear hx HF hf a1
                go_wp2
                rw [← hW1]
                clear hW1
                refine wp_region_later (by kernel_rfl) (by kernel_rfl) ?_
                repeat (first | go_big_quiet_skip | (go_big_quiet_want; go_big_quiet_op; first | go_big_quiet_on | (apply Exists.intro; refine ⟨fun x => ?_, ?_⟩; (first | (go_at_call 29; (with_reducible exact in_no' i 1 (d.next - 1) W1 p1 x))); go_big_quiet_on)))
                refine wpQuiet_nil ?_
                rintro w3 ⟨x2, hx2⟩
                have hb3 : Below W1.heap.size W1 w3 := hx2 ▸ x2.2
                clear hx2 x2
                go_wp2
                go_ret
                exact ⟨by rw [HZ.out]; rfl, HB.out.trans ((HBr.out.trans (hb3.mono HBr.out.size)).mono HB.out.size)⟩
            · obtain rfl : nN = k := by omega
              have HNd := Lib.hid (show nodesFrom d.next none d.nodes = true by rw [hf.out, drop_end HL.out.1]; rfl)
              have HBW := Lib.hid hb
              have x0 := bx.at 0 _ rfl
              clear hf hb bx hlt
              go_wp2
              go_loopw [5] (fun i wr => ∃ k : Nat, k ≤ nS + 1 ∧ i = .int .i64 k ∧ Hid ((List.range k).all (okAt d) = true) ∧ Below W.heap.size W wr) (fun i _ => nS + 1 - (intOf i).toNat)
              case atStart => exact ⟨0, Nat.zero_le _, rfl, Lib.hid rfl, HBW.out⟩
              case round =>
                clear HBW x0
                obtain ⟨k, hk, rfl, hf, hb⟩ := hrel
                have bx := BX.out.below hb
                have x0 := bx.at 0 _ rfl
                have x1 := bx.at 1 _ rfl
                have x2 := bx.at 2 _ rfl
                have x3 := bx.at 3 _ rfl
                have x4 := bx.at 4 _ rfl
                have x5 := bx.at 5 _ rfl
                by_cases hlt : k ≤ nS
                · have j2 : (k : Int) ≤ (nS : Int) := by omega
                  have HLt := Lib.hid hlt
                  have HW := Lib.hid HK.out.1
                  have hhist := Lib.hid (show stepsDone d.old d.steps (k : Int) = histAt d k by unfold stepsDone histAt; rw [HL.out.2, clampN_nat k nS hlt])
                  obtain ⟨hi, hhi⟩ : ∃ h, h = histAt d k := ⟨_, rfl⟩
                  have HHI := Lib.hid hhi
                  have CS := Lib.hid (show Calls Tryz.prog 30 #[.slice aO nO cO, .slice aS nS cS, .int .i64 (k : Int)] wr (StepsR hi wr) by rw [hhi, ← hhist.out]; exact specSteps aO aS nO cO nS cS d.old d.steps k wr (by omega) (by omega) (fun s hs => step_small HK.out s hs) (HO.out.below hb) (HS.out.below hb))
                  clear hhi hlt
                  go_wp2_with (fail)
                  refine CS.out.mono ?_
                  rintro e w4 ⟨v4, he, ho4, hb4⟩
                  cases hi with
                  | none =>
                    have HZ := Lib.hid (disk_hist (d := d) (all_range_false (k := k) (by unfold okAt; rw [← HHI.out]) (by rw [HL.out.2]; have := HLt.out; omega)))
                    rw [show (Option.isSome (none : Option (List Ent))) = false from rfl] at he
                    obtain ⟨q, ho4⟩ := ho4
                    obtain ⟨a4, c4, rfl, _, _⟩ := own_shape ho4
                    subst he
                    go_wp2
                    go_ret
                    exact ⟨by rw [HZ.out]; rfl, HB.out.trans ((hb.trans (hb4.mono hb.size)).mono HB.out.size)⟩
                  | some l =>
                    rw [show (Option.isSome (some l)) = true from rfl] at he
                    have ho4 : OwnE wr.heap.size w4 v4 l := ho4
                    obtain ⟨q, ho4⟩ := ho4
                    obtain ⟨a4, c4, rfl, _, _⟩ := own_shape ho4
                    subst he
                    have HA4 := Lib.hid (show AtE w4 a4 q l from own_cells ho4)
                    have HOK := Lib.hid (show okAt d k = (entsOk d l && (decide (k ≠ d.steps.length) || decide (l = d.ents))) by unfold okAt; rw [← HHI.out])
                    have hql : q ≤ 3000000 := by have h1 := HA4.out.len; have h2 := hist_length HK.out HHI.out; omega
                    have hqm : q ≤ 10000000 := by omega
                    have hqM : q ≤ maxLen := by unfold maxLen; omega
                    have HB4 := Lib.hid (hb.trans (hb4.mono hb.size))
                    have HV4 := Lib.hid (HV.out.below HB4.out)
                    have HE4 := Lib.hid (HE.out.below HB4.out)
                    have bx4 := bx.below hb4
                    have z0 := bx4.at 0 _ rfl
                    have z1 := bx4.at 1 _ rfl
                    have z2 := bx4.at 2 _ rfl
                    have z3 := bx4.at 3 _ rfl
                    have z4 := bx4.at 4 _ rfl
                    have z5 := bx4.at 5 _ rfl
                    have zl := bx4.1
                    obtain ⟨ek, hek⟩ : ∃ b, b = entsOk d l := ⟨_, rfl⟩
                    have CE := Lib.hid (show Calls Tryz.prog 31 #[.agg #[.slice aN nN cN, .slice aE nE cE, .slice aO nO cO, .slice aS nS cS, .int .i64 d.room, .int .i64 d.next], .slice a4 q c4] w4 fun e w' => e = .returned (.bool ek) ∧ Below w4.heap.size w4 w' by rw [hek]; exact specEntries _ d a4 q c4 l w4 (by rw [HL.out.1]; unfold maxLen; omega) hqm (hist_small HK.out HHI.out) HV4.out HA4.out)
                    have HEK := Lib.hid hek
                    clear hek hb4 ho4 bx4 bx x0 x1 x2 x3 x4 x5
                    cases ek with
                    | false =>
                      have HZ := Lib.hid (disk_hist (d := d) (all_range_false (k := k) (by rw [HOK.out, ← HEK.out]; rfl) (by rw [HL.out.2]; have := HLt.out; omega)))
                      go_wp2_with (fail)
                      refine CE.out.mono ?_
                      rintro e w5 ⟨rfl, hb5⟩
                      go_wp2
                      go_ret
                      exact ⟨by rw [HZ.out]; rfl, HB.out.trans ((HB4.out.trans (hb5.mono HB4.out.size)).mono HB.out.size)⟩
                    | true =>
                      go_wp2_with (fail)
                      refine CE.out.mono ?_
                      rintro e w5 ⟨rfl, hb5⟩
                      have u1 := (hb5.cell (p := ⟨w.heap.size, 1, none⟩) zl).trans z1
                      have u3 := (hb5.cell (p := ⟨w.heap.size, 3, none⟩) zl).trans z3
                      have HA5 := Lib.hid (HA4.out.below hb5)
                      have HE5 := Lib.hid (HE4.out.below hb5)
                      have HB5 := Lib.hid (HB4.out.trans (hb5.mono HB4.out.size))
                      clear z0 z1 z2 z3 z4 z5 zl hb5
                      by_cases hks : k = nS
                      · have g1 : ((k : Int) == (nS : Int)) = true := by simp [hks]
                        have g2 : decide (k = nS) = true := by simp [hks]
                        obtain ⟨sm, hsm⟩ : ∃ b, b = decide (l = d.ents) := ⟨_, rfl⟩
                        have CM := Lib.hid (show Calls Tryz.prog 32 #[.slice a4 q c4, .slice aE nE cE] w5 fun e w' => e = .returned (.bool sm) ∧ Below w5.heap.size w5 w' by rw [hsm]; exact specSame a4 aE c4 cE q nE l d.ents w5 hqM (by unfold maxLen; omega) HA5.out HE5.out)
                        cases sm with
                        | false =>
                          have HZ := Lib.hid (disk_hist (d := d) (all_range_false (k := k) (by rw [HOK.out, ← HEK.out, ← hsm, HL.out.2]; simp [hks]) (by rw [HL.out.2]; have := HLt.out; omega)))
                          clear hsm hks
                          go_wp2_with (go_at_call 32; refine CM.out.mono ?_; rintro e w6 ⟨rfl, hb6⟩)
                          go_ret
                          exact ⟨by rw [HZ.out]; rfl, HB.out.trans ((HB5.out.trans (hb6.mono HB5.out.size)).mono HB.out.size)⟩
                        | true =>
                          have HK1 := Lib.hid (show (List.range (k + 1)).all (okAt d) = true by rw [all_range_snoc, hf.out]; unfold okAt; rw [← HHI.out]; dsimp only; rw [← HEK.out, ← hsm]; simp)
                          clear hsm hks
                          go_wp2_with (go_at_call 32; refine CM.out.mono ?_; rintro e w6 ⟨rfl, hb6⟩)
                          go_roundw
                          case rel => exact ⟨k + 1, by have := HLt.out; omega, by go_num, HK1, HB5.out.trans (hb6.mono HB5.out.size)⟩
                          case measure => have := HLt.out; simp [intOf]; omega
                      · have g1 : ((k : Int) == (nS : Int)) = false := by simp; omega
                        have g2 : decide (k = nS) = false := by simp [hks]
                        have HK1 := Lib.hid (show (List.range (k + 1)).all (okAt d) = true by rw [all_range_snoc, hf.out]; unfold okAt; rw [← HHI.out]; dsimp only; rw [← HEK.out, HL.out.2]; simp [hks])
                        clear hks
                        go_wp2
                        go_roundw
                        case rel => exact ⟨k + 1, by have := HLt.out; omega, by go_num, HK1, HB5.out⟩
                        case measure => have := HLt.out; simp [intOf]; omega
                · obtain rfl : k = nS + 1 := by omega
                  have HZ := Lib.hid (show diskOk d = true by unfold diskOk okHist; rw [HH.out, HNd.out, HL.out.2, hf.out]; rfl)
                  have j2 : ¬ ((nS : Int) + 1) ≤ (nS : Int) := by omega
                  go_wp2
                  go_ret
                  exact ⟨by rw [HZ.out]; rfl, HB.out.trans (hb.mono HB.out.size)⟩
        · have HZ := Lib.hid (disk_head (d := d) (by unfold okHead; simp; omega))
          have c4' : decide (d.room < ((usedOn d : Nat) : Int)) = true := by simp; omega
          clear c4 c2 c3
          refine wp_region_later (by kernel_rfl) (by kernel_rfl) ?_
          repeat (first | go_big_quiet_skip | (go_big_quiet_want; go_big_quiet_op; first | go_big_quiet_on | (apply Exists.intro; refine ⟨fun x => ?_, ?_⟩; (first | (go_at_call 29; (with_reducible exact in_yes' d.room 0 1000000000 W C2.out.1 C2.out.2 x)) | (go_at_call 29; (with_reducible exact in_yes' d.next 1 1000000000 W C3.out.1 C3.out.2 x)) | (go_at_call 19; exact Calls.later (CU.out x))); go_big_quiet_on)))
          refine wpQuiet_nil ?_
          rintro w2 ⟨x2, hx2⟩
          have hb2 : Below W.heap.size W w2 := hx2 ▸ x2.2
          clear hx2 x2
          go_wp2
          go_ret
          exact ⟨by rw [HZ.out]; rfl, HB.out.trans (hb2.mono HB.out.size)⟩
      · have HZ := Lib.hid (disk_head (d := d) (by unfold okHead; simp; omega))
        have c3' : d.next < 1 ∨ 1000000000 < d.next := by omega
        clear c3 c2
        refine wp_region_later (by kernel_rfl) (by kernel_rfl) ?_
        repeat (first | go_big_quiet_skip | (go_big_quiet_want; go_big_quiet_op; first | go_big_quiet_on | (apply Exists.intro; refine ⟨fun x => ?_, ?_⟩; (first | (go_at_call 29; (with_reducible exact in_yes' d.room 0 1000000000 W C2.out.1 C2.out.2 x)) | (go_at_call 29; (with_reducible exact in_no' d.next 1 1000000000 W c3' x))); go_big_quiet_on)))
        refine wpQuiet_nil ?_
        rintro w2 ⟨x2, hx2⟩
        have hb2 : Below W.heap.size W w2 := hx2 ▸ x2.2
        clear hx2 x2
        go_wp2
        go_ret
        exact ⟨by rw [HZ.out]; rfl, HB.out.trans (hb2.mono HB.out.size)⟩
    · have HZ := Lib.hid (disk_head (d := d) (by unfold okHead; simp; omega))
      have c2' : d.room < 0 ∨ 1000000000 < d.room := by omega
      clear c2
      refine wp_region_later (by kernel_rfl) (by kernel_rfl) ?_
      repeat (first | go_big_quiet_skip | (go_big_quiet_want; go_big_quiet_op; first | go_big_quiet_on | (apply Exists.intro; refine ⟨fun x => ?_, ?_⟩; (first | (go_at_call 29; (with_reducible exact in_no' d.room 0 1000000000 W c2' x))); go_big_quiet_on)))
      refine wpQuiet_nil ?_
      rintro w2 ⟨x2, hx2⟩
      have hb2 : Below W.heap.size W w2 := hx2 ▸ x2.2
      clear hx2 x2
      go_wp2
      go_ret
      exact ⟨by rw [HZ.out]; rfl, HB.out.trans (hb2.mono HB.out.size)⟩

end Go.Proofs.YtnhcianahmfdhaaGreatDoor.deed
