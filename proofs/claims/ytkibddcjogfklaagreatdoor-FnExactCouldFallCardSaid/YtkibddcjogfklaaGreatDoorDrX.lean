/-
  Deeds keep a disk right, plain facts: what a deed's step says is read back, and what was right ahead of it is right behind it.
-/
import Derived.Test.YtkibddcjogfklaaGreatDoorIkX
import Derived.Test.YtkibddcjogfklaaGreatDoorDqY
import Derived.Test.YtkibddcjogfklaaGreatDoorIkMap
namespace Go.Proofs.YtkibddcjogfklaaGreatDoor.deed
open Go
open kit strs recs disk

/-! ### steps read back -/
theorem byte_head {s : ByteArray} {c : UInt8} {r : List UInt8} (h : s.data.toList = c :: r) : byteAt s 0 = c.toNat ∧ 1 ≤ s.size ∧ (s.extract 1 s.size).data.toList = r := by
  have hsz : s.size = r.length + 1 := by
    have h2 := congrArg List.length h
    rw [Array.length_toList] at h2
    exact h2
  refine ⟨?_, by omega, ?_⟩
  · have hi : 0 < s.size := by omega
    rw [byteAt_in hi]
    have h2 := ik.byte_cons s 0 hi
    rw [List.drop_zero, h] at h2
    injection h2 with h3 _
    rw [← h3]
  · rw [ik.ext_tail, h]
    rfl
theorem minus_list (s : ByteArray) : (minusStep s).data.toList = 45 :: s.data.toList := by
  unfold minusStep
  rw [ByteArray.data_append, Array.toList_append]
  rfl
theorem move_list (s t : ByteArray) : (moveStep s t).data.toList = 62 :: (s.data.toList ++ 58 :: t.data.toList) := by
  unfold moveStep
  simp only [ByteArray.data_append, Array.toList_append]
  simp
theorem plus_list (s : ByteArray) (n : Int) : (plusStep s n).data.toList = 43 :: (s.data.toList ++ 58 :: Lib.itoa n) := by
  unfold plusStep
  simp only [ByteArray.data_append, Array.toList_append]
  simp
theorem fc_app : ∀ (a b : List UInt8), (∀ c ∈ a, c ≠ 58) → ik.fc (a ++ 58 :: b) = some a.length
  | [], b, _ => by simp [ik.fc]
  | x :: r, b, h => by
    rw [List.cons_append, ik.fc, if_neg (h x List.mem_cons_self), fc_app r b fun c hc => h c (List.mem_cons_of_mem _ hc)]
    rfl
theorem cut_app {s : ByteArray} {a b : List UInt8} (h : s.data.toList = a ++ 58 :: b) (ha : ∀ c ∈ a, c ≠ 58) : ik.cutA s = ⟨a.toArray⟩ ∧ ik.cutB s = ⟨b.toArray⟩ := by
  unfold ik.cutA ik.cutB
  rw [h, ik.cut_fc, fc_app _ _ ha]
  constructor
  · congr 1
    simp
  · congr 1
    simp
theorem nok_colon {s : ByteArray} (h : nam.nok s = true) : ∀ c ∈ s.data.toList, c ≠ 58 := fun c hc e => by
  unfold nam.nok at h
  rw [Bool.and_eq_true, List.all_eq_true] at h
  have h2 := h.1 c.toNat (by
    unfold num.nats
    rw [List.drop_zero]
    exact List.mem_map_of_mem hc)
  rw [e] at h2
  revert h2
  decide
theorem of_data (s : ByteArray) : (⟨s.data.toList.toArray⟩ : ByteArray) = s := rfl
theorem do_minus {l : List Ent} {s : ByteArray} (hn : ik.Nok l) (h : hasE l s = true) : doStep l (minusStep s) = some (dropE l s) := by
  obtain ⟨h1, h2, h3⟩ := byte_head (minus_list s)
  have he : (minusStep s).extract 1 (minusStep s).size = s := ik.key_inj h3
  rw [ik.step_minus hn h2 (by rw [h1]; rfl), he, if_pos h]
theorem readN_itoa {n : Int} (h0 : 0 ≤ n) (h1 : n ≤ 1000000000) : readN (⟨(Lib.itoa n).toArray⟩ : ByteArray) = (n, true) := by
  obtain ⟨m, rfl⟩ := Int.eq_ofNat_of_zero_le h0
  unfold readN
  have : rd.RD (⟨(Lib.itoa (m : Int)).toArray⟩ : ByteArray).data.toList = some m := rd.rd_some.2 ⟨by omega, by rw [rd.itoa_nat]⟩
  rw [this]
theorem do_plus {l : List Ent} {s : ByteArray} {n : Int} (hl : ik.Srt l) (hs : nam.nok s = true) (h0 : 0 ≤ n) (h1 : n ≤ 1000000000) : doStep l (plusStep s n) = some (putE l (s, n)) := by
  obtain ⟨b1, b2, b3⟩ := byte_head (plus_list s n)
  obtain ⟨c1, c2⟩ := cut_app b3 (nok_colon hs)
  rw [of_data] at c1
  rw [ik.step_plus hl b2 (by rw [b1]; rfl), c1, c2, readN_itoa h0 h1, if_pos ⟨rfl, hs⟩, ik.putE_ins _ hl]
theorem do_move {l : List Ent} {s t : ByteArray} (hl : ik.Srt l) (hn : ik.Nok l) (h : hasE l s = true) (ht : nam.nok t = true) (hne : ¬ s = t) : doStep l (moveStep s t) = some (putE (dropE l s) (t, idE l s)) := by
  obtain ⟨b1, b2, b3⟩ := byte_head (move_list s t)
  obtain ⟨c1, c2⟩ := cut_app b3 (nok_colon (ik.has_nok hn h))
  rw [of_data] at c1 c2
  rw [ik.step_move hl hn b2 (by rw [b1]; rfl), c1, c2, if_pos ⟨h, hne, ht⟩, ik.putE_ins _ (ik.drop_srt _ hl)]

/-! ### what is known of a disk that is right -/
theorem right_hist {d : D} (h : diskOk d = true) {k : Nat} (hk : k ≤ d.steps.length) : ∃ l, histAt d k = some l ∧ entsOk d l = true := by
  unfold diskOk at h
  rw [Bool.and_eq_true] at h
  have h := (List.all_eq_true.1 h.2) k (List.mem_range.2 (by omega))
  unfold okAt at h
  cases hh : histAt d k with
  | none => rw [hh] at h; cases h
  | some l =>
    rw [hh] at h
    simp only [Bool.and_eq_true] at h
    exact ⟨l, rfl, h.1⟩
theorem right_last {d : D} (h : diskOk d = true) : stepsTo d.old d.steps = some d.ents := by
  unfold diskOk at h
  rw [Bool.and_eq_true] at h
  have h := (List.all_eq_true.1 h.2) d.steps.length (List.mem_range.2 (Nat.lt_succ_self _))
  unfold okAt histAt at h
  rw [List.take_length] at h
  cases hh : stepsTo d.old d.steps with
  | none => rw [hh] at h; cases h
  | some l =>
    rw [hh] at h
    simp only [Bool.and_eq_true, Bool.or_eq_true, decide_eq_true_eq] at h
    rcases h.2 with h2 | h2
    · exact absurd rfl h2
    · rw [h2]
theorem right_srt {d : D} (h : diskOk d = true) : ik.Srt d.ents ∧ ik.Nok d.ents := ik.ents_srt (right_ents h)
theorem right_old {d : D} (h : diskOk d = true) : entsOk d d.old = true := by
  obtain ⟨l, h1, h2⟩ := right_hist h (Nat.zero_le _)
  unfold histAt at h1
  rw [List.take_zero] at h1
  cases h1
  exact h2
theorem ents_nodes {d : D} {l : List Ent} (h : entsOk d l = true) : ∀ e ∈ l, (nodeIx d.nodes e.2).isSome = true := by
  obtain ⟨hs, hn⟩ := ik.ents_srt h
  rw [ik.ents_is hs hn] at h
  unfold ik.good at h
  rw [Bool.and_eq_true] at h
  exact List.all_eq_true.1 h.2
theorem ents_of {x : D} {l : List Ent} (hs : ik.Srt l) (hn : ik.Nok l) (hl : l.length ≤ 16) (hx : ∀ e ∈ l, (nodeIx x.nodes e.2).isSome = true) : entsOk x l = true := by
  rw [ik.ents_is hs hn]
  unfold ik.good
  rw [Bool.and_eq_true]
  exact ⟨by simpa using hl, List.all_eq_true.2 hx⟩
theorem ents_mono {d x : D} {l : List Ent} (h : entsOk d l = true) (hx : ∀ e ∈ l, (nodeIx x.nodes e.2).isSome = true) : entsOk x l = true := by
  obtain ⟨hs, hn⟩ := ik.ents_srt h
  exact ents_of hs hn (ents_small h).1 hx
theorem hist_snoc {d x : D} {s : ByteArray} (h : diskOk d = true) (ho : x.old = d.old) (hs : x.steps = d.steps ++ [s]) (hd : doStep d.ents s = some x.ents)
    (hn : ∀ i, (nodeIx d.nodes i).isSome = true → (nodeIx x.nodes i).isSome = true) (he : entsOk x x.ents = true) : okHist x = true := by
  unfold okHist
  rw [List.all_eq_true]
  intro k hk
  rw [List.mem_range, hs, List.length_append, List.length_singleton] at hk
  have hl : x.steps.length = d.steps.length + 1 := by rw [hs, List.length_append, List.length_singleton]
  unfold okAt histAt
  rw [hl]
  by_cases hkl : k ≤ d.steps.length
  · obtain ⟨l, h1, h2⟩ := right_hist h hkl
    unfold histAt at h1
    rw [ho, hs, List.take_append_of_le_length hkl, h1]
    simp only []
    rw [ents_mono (x := x) h2 fun e hm => hn _ (ents_nodes h2 e hm)]
    simp
    omega
  · obtain rfl : k = d.steps.length + 1 := by omega
    rw [ho, hs, List.take_of_length_le (by simp), stepsTo_app, right_last h]
    simp only [Option.bind_some, stepsTo, hd, he]
    simp

/-! ### nodes that nothing stands for are left out -/
theorem used_of {d : D} {l : List Ent} {k : Nat} {e : Ent} {n : Nod} (hk : k ≤ d.steps.length) (hl : histAt d k = some l) (he : e ∈ l) (hn : n.1 = e.2) : usedN d n = true := by
  unfold usedN
  rw [List.any_eq_true]
  refine ⟨k, List.mem_range.2 (by omega), ?_⟩
  rw [hl, Option.getD_some, List.any_eq_true]
  exact ⟨e, he, by simp [hn]⟩
theorem nodeIx_filter {ns : List Nod} {f : Nod → Bool} {i : Int} (h : (nodeIx ns i).isSome = true) (hf : ∀ n ∈ ns, n.1 = i → f n = true) : (nodeIx (ns.filter f) i).isSome = true := by
  rw [ik.nodeIx_mem, List.any_eq_true] at *
  obtain ⟨n, hn, he⟩ := h
  exact ⟨n, List.mem_filter.2 ⟨hn, hf n hn (by simpa using he)⟩, he⟩
theorem ids_filter {next : Int} {f : Nod → Bool} : ∀ {l : List Nod} {p q : Int}, q ≤ p → ik.idsFrom next p l = true → ik.idsFrom next q (l.filter f) = true
  | [], _, _, _, _ => rfl
  | n :: r, p, q, hq, h => by
    unfold ik.idsFrom at h
    rw [Bool.and_eq_true, decide_eq_true_eq] at h
    obtain ⟨⟨h1, h2, h3, h4⟩, h5⟩ := h
    rw [List.filter_cons]
    by_cases hf : f n = true
    · rw [if_pos hf, ik.idsFrom, Bool.and_eq_true, decide_eq_true_eq]
      exact ⟨⟨by omega, h2, h3, h4⟩, ids_filter (Int.le_refl _) h5⟩
    · rw [if_neg hf]
      exact ids_filter (by omega) h5
theorem tot_filter (f : Nod → Bool) : ∀ l : List Nod, tot ((l.filter f).map (·.2.1)) ≤ tot (l.map (·.2.1))
  | [] => Nat.le_refl _
  | n :: r => by
    have ih := tot_filter f r
    have e : tot ((n :: r).map (·.2.1)) = n.2.1.size + tot (r.map (·.2.1)) := by simp [tot]
    rw [List.filter_cons]
    by_cases hf : f n = true
    · rw [if_pos hf, e, List.map_cons]
      have e2 : tot (n.2.1 :: (r.filter f).map (·.2.1)) = n.2.1.size + tot ((r.filter f).map (·.2.1)) := by simp [tot]
      rw [e2]
      omega
    · rw [if_neg hf, e]
      omega
theorem clean_right {x : D} (h1 : okHead x = true) (h2 : nodesFrom x.next none x.nodes = true) (h3 : okHist x = true) : diskOk (clean x) = true := by
  unfold diskOk
  rw [Bool.and_eq_true, Bool.and_eq_true]
  refine ⟨⟨?_, ?_⟩, ?_⟩
  · unfold okHead at h1 ⊢
    simp only [Bool.and_eq_true, decide_eq_true_eq] at h1 ⊢
    obtain ⟨⟨⟨a, b⟩, c⟩, e⟩ := h1
    have ht := tot_filter (usedN x) x.nodes
    refine ⟨⟨⟨Nat.le_trans (List.length_filter_le _ _) a, b⟩, c⟩, ?_⟩
    have hu : usedOn (clean x) ≤ usedOn x := ht
    show ((usedOn (clean x) : Nat) : Int) ≤ x.room
    omega
  · rw [ik.ids_none] at h2 ⊢
    exact ids_filter (Int.le_refl _) h2
  · unfold okHist at h3 ⊢
    rw [List.all_eq_true] at h3 ⊢
    intro k hk
    have hk2 := List.mem_range.1 hk
    have h := h3 k hk
    unfold okAt at h ⊢
    show (match histAt x k with | none => false | some l => entsOk (clean x) l && (decide (k ≠ x.steps.length) || decide (l = x.ents))) = true
    cases hh : histAt x k with
    | none => rw [hh] at h; cases h
    | some l =>
      rw [hh] at h
      simp only [Bool.and_eq_true] at h ⊢
      refine ⟨ents_mono h.1 fun e he => ?_, h.2⟩
      exact nodeIx_filter (ents_nodes h.1 e he) fun n _ hn => used_of (by have : x.steps.length = (clean x).steps.length := rfl; omega) hh he hn

/-! ### each deed -/
theorem right_parts {d : D} (h : diskOk d = true) : okHead d = true ∧ nodesFrom d.next none d.nodes = true ∧ okHist d = true := by
  unfold diskOk at h
  rw [Bool.and_eq_true, Bool.and_eq_true] at h
  exact ⟨h.1.1, h.1.2, h.2⟩
theorem ents_len {d : D} (h : diskOk d = true) : d.ents.length ≤ 16 := (ents_small (right_ents h)).1
theorem has_of {l : List Ent} {e : Ent} (h : e ∈ l) : hasE l e.1 = true := by
  unfold hasE
  induction l with
  | nil => cases h
  | cons y r ih =>
    unfold entAt
    by_cases hy : y.1 = e.1
    · rw [if_pos hy]; rfl
    · rw [if_neg hy]
      rcases List.mem_cons.1 h with rfl | h
      · exact absurd rfl hy
      · exact ih h
theorem drop_less : ∀ {l : List Ent} {s : ByteArray}, hasE l s = true → (dropE l s).length + 1 ≤ l.length
  | [], s, h => by cases h
  | x :: r, s, h => by
    unfold dropE
    rw [List.filter_cons, List.length_cons]
    by_cases hx : x.1 = s
    · rw [if_neg (by simp [hx])]
      have := dropE_length r s
      unfold dropE at this
      omega
    · rw [if_pos (by simp [hx]), List.length_cons]
      have h2 : hasE r s = true := by
        unfold hasE entAt at h
        rw [if_neg hx] at h
        exact h
      have := drop_less h2
      unfold dropE at this
      omega
theorem right_remove {d : D} {s : ByteArray} (h : diskOk d = true) (hs : hasE d.ents s = true) : okHead (removeMid d s) = true ∧ nodesFrom (removeMid d s).next none (removeMid d s).nodes = true ∧ okHist (removeMid d s) = true := by
  obtain ⟨a, b, _⟩ := right_parts h
  obtain ⟨hr, hn⟩ := right_srt h
  refine ⟨a, b, hist_snoc h rfl rfl (do_minus hn hs) (fun i hi => hi) ?_⟩
  have hsub : ∀ e ∈ dropE d.ents s, e ∈ d.ents := fun e he => (List.mem_filter.1 he).1
  exact ents_of (ik.drop_srt _ hr) (fun e he => hn e (hsub e he)) (Nat.le_trans (dropE_length _ _) (ents_len h)) fun e he => ents_nodes (right_ents h) e (hsub e he)
theorem id_node {d : D} {s : ByteArray} (h : diskOk d = true) (hs : hasE d.ents s = true) : (nodeIx d.nodes (idE d.ents s)).isSome = true := by
  obtain ⟨k, nd, h1, _⟩ := right_node h hs
  rw [h1]
  rfl
theorem right_rename {d : D} {s t : ByteArray} (h : diskOk d = true) (hs : hasE d.ents s = true) (ht : nam.nok t = true) (hne : ¬ s = t) : okHead (renameMid d s t) = true ∧ nodesFrom (renameMid d s t).next none (renameMid d s t).nodes = true ∧ okHist (renameMid d s t) = true := by
  obtain ⟨a, b, _⟩ := right_parts h
  obtain ⟨hr, hn⟩ := right_srt h
  refine ⟨a, b, hist_snoc h rfl rfl (do_move hr hn hs ht hne) (fun i hi => hi) ?_⟩
  have hsub : ∀ e ∈ dropE d.ents s, e ∈ d.ents := fun e he => (List.mem_filter.1 he).1
  have hlen := putE_length (dropE d.ents s) (t, idE d.ents s)
  have hdl := drop_less hs
  have h16 := ents_len h
  have hlen2 : (renameMid d s t).ents.length ≤ 16 := by show (putE (dropE d.ents s) (t, idE d.ents s)).length ≤ 16; omega
  have heq : (renameMid d s t).ents = ik.insE (t, idE d.ents s) (dropE d.ents s) := ik.putE_ins _ (ik.drop_srt _ hr)
  refine ents_of ?_ ?_ hlen2 ?_
  · rw [heq]; exact ik.ins_srt (ik.drop_srt _ hr)
  · rw [heq]
    intro e he
    rcases ik.ins_mem he with rfl | he
    · exact ht
    · exact hn e (hsub e he)
  · rw [heq]
    intro e he
    rcases ik.ins_mem he with rfl | he
    · exact id_node h hs
    · exact ents_nodes (right_ents h) e (hsub e he)
theorem ids_snoc {next : Int} {n : Nod} (hn : n = (next, { data := #[] }, 0)) : ∀ {l : List Nod} {p : Int}, p < next → ik.idsFrom next p l = true → ik.idsFrom (next + 1) p (l ++ [n]) = true
  | [], p, hp, _ => by
    subst hn
    have e : ((next, ({ data := #[] } : ByteArray), (0 : Int)) : Nod).2.1.size = 0 := rfl
    rw [List.nil_append, ik.idsFrom, ik.idsFrom, Bool.and_true, decide_eq_true_eq, e]
    refine ⟨hp, ?_, ?_, ?_⟩ <;> simp
    omega
  | m :: r, p, hp, h => by
    unfold ik.idsFrom at h
    rw [Bool.and_eq_true, decide_eq_true_eq] at h
    obtain ⟨⟨h1, h2, h3, h4⟩, h5⟩ := h
    rw [List.cons_append, ik.idsFrom, Bool.and_eq_true, decide_eq_true_eq]
    exact ⟨⟨h1, by omega, h3, h4⟩, ids_snoc hn h2 h5⟩
theorem right_create {d : D} {s : ByteArray} (h : diskOk d = true) (hs : nam.nok s = true) (h16 : ¬ 16 ≤ d.ents.length) (h64 : ¬ 64 ≤ d.nodes.length) (hx : ¬ 1000000000 ≤ d.next) : okHead (createMid d s) = true ∧ nodesFrom (createMid d s).next none (createMid d s).nodes = true ∧ okHist (createMid d s) = true := by
  obtain ⟨a, b, _⟩ := right_parts h
  obtain ⟨hr, hn⟩ := right_srt h
  obtain ⟨n1, n2⟩ := right_next h
  have hmono : ∀ i, (nodeIx d.nodes i).isSome = true → (nodeIx (createMid d s).nodes i).isSome = true := fun i hi => by
    show (nodeIx (d.nodes ++ [_]) i).isSome = true
    rw [ik.nodeIx_mem] at hi ⊢
    rw [List.any_append, hi]
    rfl
  refine ⟨?_, ?_, hist_snoc h rfl rfl (do_plus hr hs (by omega) n2) hmono ?_⟩
  · unfold okHead at a ⊢
    simp only [Bool.and_eq_true, decide_eq_true_eq] at a ⊢
    obtain ⟨⟨⟨a1, a2⟩, a3⟩, a4⟩ := a
    have e1 : (createMid d s).nodes.length = d.nodes.length + 1 := by show (d.nodes ++ [_]).length = _; simp
    have e2 : usedOn (createMid d s) = usedOn d := by
      show tot ((d.nodes ++ [((d.next, ({ data := #[] } : ByteArray), (0 : Int)) : Nod)]).map fun n : Nod => n.2.1) = tot (d.nodes.map fun n : Nod => n.2.1)
      rw [List.map_append, tot_app]
      rfl
    rw [e1, e2]
    exact ⟨⟨⟨by omega, a2⟩, (show 1 ≤ d.next + 1 ∧ d.next + 1 ≤ 1000000000 by omega)⟩, a4⟩
  · rw [ik.ids_none] at b ⊢
    exact ids_snoc rfl (by omega) b
  · have hlen := putE_length d.ents (s, d.next)
    have heq : (createMid d s).ents = ik.insE (s, d.next) d.ents := ik.putE_ins _ hr
    refine ents_of ?_ ?_ (by show (putE d.ents (s, d.next)).length ≤ 16; omega) ?_
    · rw [heq]; exact ik.ins_srt hr
    · rw [heq]
      intro e he
      rcases ik.ins_mem he with rfl | he
      · exact hs
      · exact hn e he
    · rw [heq]
      intro e he
      rcases ik.ins_mem he with rfl | he
      · show (nodeIx (d.nodes ++ [_]) d.next).isSome = true
        rw [ik.nodeIx_mem, List.any_append]
        simp
      · exact hmono _ (ents_nodes (right_ents h) e he)
theorem right_sync {d : D} (h : diskOk d = true) : okHead (syncMid d) = true ∧ nodesFrom (syncMid d).next none (syncMid d).nodes = true ∧ okHist (syncMid d) = true := by
  obtain ⟨a, b, _⟩ := right_parts h
  refine ⟨a, b, ?_⟩
  unfold okHist
  rw [List.all_eq_true]
  intro k hk
  obtain rfl : k = 0 := by
    have := List.mem_range.1 hk
    have e : (syncMid d).steps.length = 0 := rfl
    omega
  unfold okAt histAt
  show (match stepsTo d.ents [] with | none => false | some l => entsOk (syncMid d) l && (decide (0 ≠ 0) || decide (l = d.ents))) = true
  have he : entsOk (syncMid d) d.ents = true := ents_mono (right_ents h) fun e he => ents_nodes (right_ents h) e he
  rw [stepsTo]
  simp only [he]
  simp
theorem nodeIx_ids {l m : List Nod} (h : l.map (·.1) = m.map (·.1)) (i : Int) : nodeIx l i = nodeIx m i := by
  induction l generalizing m with
  | nil =>
    cases m with
    | nil => rfl
    | cons y r => cases h
  | cons x r ih =>
    cases m with
    | nil => cases h
    | cons y q =>
      rw [List.map_cons, List.map_cons] at h
      injection h with h1 h2
      unfold nodeIx
      rw [ih h2, h1]
theorem ids_set {next : Int} {n m : Nod} (hi : m.1 = n.1) (h0 : 0 ≤ m.2.2 ∧ m.2.2 ≤ (m.2.1.size : Int)) : ∀ {l : List Nod} {k : Nat} {p : Int}, l[k]? = some n → ik.idsFrom next p l = true → ik.idsFrom next p (l.set k m) = true
  | [], k, p, h, _ => by simp at h
  | x :: r, 0, p, h, hf => by
    simp only [List.getElem?_cons_zero, Option.some.injEq] at h
    subst h
    unfold ik.idsFrom at hf
    rw [Bool.and_eq_true, decide_eq_true_eq] at hf
    rw [List.set_cons_zero, ik.idsFrom, Bool.and_eq_true, decide_eq_true_eq, hi]
    exact ⟨⟨hf.1.1, hf.1.2.1, h0⟩, hf.2⟩
  | x :: r, k + 1, p, h, hf => by
    simp only [List.getElem?_cons_succ] at h
    unfold ik.idsFrom at hf
    rw [Bool.and_eq_true] at hf
    rw [List.set_cons_succ, ik.idsFrom, Bool.and_eq_true]
    exact ⟨hf.1, ids_set hi h0 h hf.2⟩
theorem right_set {d : D} {k : Nat} {n m : Nod} (h : diskOk d = true) (hx : d.nodes[k]? = some n) (hi : m.1 = n.1) (h0 : 0 ≤ m.2.2 ∧ m.2.2 ≤ (m.2.1.size : Int)) (hu : (usedOn d : Int) + (m.2.1.size : Int) ≤ d.room + (n.2.1.size : Int)) : diskOk (setNode d k m) = true := by
  obtain ⟨a, b, c⟩ := right_parts h
  have hids : (d.nodes.set k m).map (·.1) = d.nodes.map (·.1) := by
    rw [List.map_set]
    apply List.ext_getElem?
    intro j
    rw [List.getElem?_set]
    split
    · rename_i e
      subst e
      rw [List.getElem?_map, hx]
      split
      · rw [hi]; rfl
      · rename_i e2
        rw [List.length_map] at e2
        exact absurd (List.getElem?_eq_some_iff.1 hx).1 e2
    · rfl
  unfold diskOk
  rw [Bool.and_eq_true, Bool.and_eq_true]
  refine ⟨⟨?_, ?_⟩, ?_⟩
  · unfold okHead at a ⊢
    simp only [Bool.and_eq_true, decide_eq_true_eq] at a ⊢
    obtain ⟨⟨⟨a1, a2⟩, a3⟩, a4⟩ := a
    have e1 : (setNode d k m).nodes.length = d.nodes.length := List.length_set
    have ht := tot_set (d.nodes.map (·.2.1)) k n.2.1 m.2.1 (by rw [List.getElem?_map, hx]; rfl)
    rw [← List.map_set] at ht
    have e2 : usedOn (setNode d k m) + n.2.1.size = usedOn d + m.2.1.size := ht
    rw [e1]
    refine ⟨⟨⟨a1, a2⟩, a3⟩, ?_⟩
    show ((usedOn (setNode d k m) : Nat) : Int) ≤ d.room
    omega
  · rw [ik.ids_none] at b ⊢
    exact ids_set hi h0 hx b
  · unfold okHist at c ⊢
    rw [List.all_eq_true] at c ⊢
    intro j hj
    have hc := c j hj
    unfold okAt at hc ⊢
    show (match histAt d j with | none => false | some l => entsOk (setNode d k m) l && (decide (j ≠ d.steps.length) || decide (l = d.ents))) = true
    cases hh : histAt d j with
    | none => rw [hh] at hc; cases hc
    | some l =>
      rw [hh] at hc
      simp only [Bool.and_eq_true] at hc ⊢
      refine ⟨ents_mono hc.1 fun e he => ?_, hc.2⟩
      show (nodeIx (d.nodes.set k m) e.2).isSome = true
      rw [nodeIx_ids hids]
      exact ents_nodes hc.1 e he

end Go.Proofs.YtkibddcjogfklaaGreatDoor.deed

namespace Go.Proofs.YtkibddcjogfklaaGreatDoor.ik
open Go Go.Maps
open kit strs recs disk deed

theorem no_has {l : List Ent} {s : ByteArray} : hasE l s = false ↔ ∀ e ∈ l, ¬ e.1 = s := by
  unfold hasE
  induction l with
  | nil => exact ⟨(fun _ e he => by cases he), fun _ => rfl⟩
  | cons x r ih =>
    unfold entAt
    by_cases hx : x.1 = s
    · rw [if_pos hx]
      exact ⟨(fun h => by cases h), fun h => absurd hx (h x List.mem_cons_self)⟩
    · rw [if_neg hx, ih]
      exact ⟨fun h e he => by
        rcases List.mem_cons.1 he with rfl | he
        · exact hx
        · exact h e he, fun h e he => h e (List.mem_cons_of_mem _ he)⟩
theorem entAt_app {a b : List Ent} {s : ByteArray} (h : ∀ e ∈ a, ¬ e.1 = s) : entAt (a ++ b) s = entAt b s := by
  induction a with
  | nil => rfl
  | cons x r ih =>
    rw [List.cons_append, entAt, if_neg (h x List.mem_cons_self)]
    exact ih fun e he => h e (List.mem_cons_of_mem _ he)
/-- entries as the names tell, at the old ones' places, new ones ahead of the first one that is above -/
def ordGo (f : ByteArray → Option Int) : List Ent → List Ent → List Ent
  | [], fr => fr
  | x :: r, fr => match f x.1 with
    | none => ordGo f r fr
    | some i => fr.takeWhile (fun y => lessB y.1 x.1) ++ (x.1, i) :: ordGo f r (fr.dropWhile (fun y => lessB y.1 x.1))
def notIn (old : List Ent) (e : Ent) : Bool := !hasE old e.1
theorem takeW_nil {p : Ent → Bool} : ∀ {l : List Ent}, (∀ e ∈ l, p e = false) → l.takeWhile p = [] ∧ l.dropWhile p = l
  | [], _ => ⟨rfl, rfl⟩
  | x :: r, h => by
    have h1 := h x List.mem_cons_self
    rw [List.takeWhile_cons, List.dropWhile_cons, h1]
    exact ⟨rfl, rfl⟩
theorem ordGo_is (f : ByteArray → Option Int) : ∀ (old l : List Ent), Srt old → Srt l → (∀ e ∈ old, f e.1 = entAt l e.1) → ordGo f old (l.filter (notIn old)) = l
  | [], l, _, _, _ => List.filter_eq_self.2 fun e _ => rfl
  | x :: r, l, ho, hl, hf => by
    have ho' := List.pairwise_cons.1 ho
    unfold ordGo
    rw [hf x List.mem_cons_self]
    cases hx : entAt l x.1 with
    | none =>
      have hne : ∀ e ∈ l, ¬ e.1 = x.1 := no_has.1 (by unfold hasE; rw [hx]; rfl)
      have hfl : l.filter (notIn (x :: r)) = l.filter (notIn r) := List.filter_congr fun e he => by
        unfold notIn hasE
        rw [entAt, if_neg (fun h => hne e he h.symm)]
      simp only []
      rw [hfl]
      exact ordGo_is f r l ho'.2 hl fun e he => hf e (List.mem_cons_of_mem _ he)
    | some i =>
      obtain ⟨l1, l2, rfl⟩ := List.append_of_mem (at_mem hx)
      obtain ⟨s1, s2, s3⟩ := List.pairwise_append.1 hl
      have s2' := List.pairwise_cons.1 s2
      have lo : ∀ e ∈ l1, lessB e.1 x.1 = true := fun e he => s3 e he (x.1, i) List.mem_cons_self
      have hi : ∀ e ∈ l2, lessB x.1 e.1 = true := fun e he => s2'.1 e he
      have f1 : l1.filter (notIn (x :: r)) = l1 := List.filter_eq_self.2 fun e he => by
        unfold notIn
        rw [no_has.2 fun y hy => ?_]
        · rfl
        · intro e2
          rcases List.mem_cons.1 hy with rfl | hy
          · exact less_ne (lo e he) e2.symm
          · exact less_ne (less_tr (lo e he) (ho'.1 y hy)) e2.symm
      have f2 : l2.filter (notIn (x :: r)) = l2.filter (notIn r) := List.filter_congr fun e he => by
        unfold notIn hasE
        rw [entAt, if_neg (less_ne (hi e he))]
      have f3 : (l1 ++ (x.1, i) :: l2).filter (notIn (x :: r)) = l1 ++ l2.filter (notIn r) := by
        rw [List.filter_append, f1, List.filter_cons, if_neg (by unfold notIn hasE; rw [entAt, if_pos rfl]; simp), f2]
      have n2 : ∀ e ∈ l2.filter (notIn r), (fun y : Ent => lessB y.1 x.1) e = false := fun e he => by
        have := less_no (hi e (List.mem_filter.1 he).1)
        simpa using this
      obtain ⟨t1, t2⟩ := takeW_nil n2
      simp only []
      rw [f3, List.takeWhile_append_of_pos lo, List.dropWhile_append_of_pos lo, t1, t2, List.append_nil]
      congr 2
      refine ordGo_is f r l2 ho'.2 s2'.2 fun e he => ?_
      rw [hf e (List.mem_cons_of_mem _ he), entAt_app fun y hy e2 => ?_, entAt, if_neg (less_ne (ho'.1 e he))]
      exact less_ne (less_tr (lo y hy) (ho'.1 e he)) e2
theorem ord_none {f : ByteArray → Option Int} {xs fr : List Ent} {k : Nat} {e : Ent} (hx : xs[k]? = some e) (hf : f e.1 = none) : ordGo f (xs.drop k) fr = ordGo f (xs.drop (k + 1)) fr := by
  rw [drop_cons hx, ordGo, hf]
/-- what is still to come while new ones are laid ahead of an old one -/
def ordIn (f : ByteArray → Option Int) (x : ByteArray) (i : Int) (r fr : List Ent) : List Ent := fr.takeWhile (fun y => lessB y.1 x) ++ (x, i) :: ordGo f r (fr.dropWhile (fun y => lessB y.1 x))
theorem ord_some {f : ByteArray → Option Int} {xs fr : List Ent} {k : Nat} {e : Ent} {i : Int} (hx : xs[k]? = some e) (hf : f e.1 = some i) : ordGo f (xs.drop k) fr = ordIn f e.1 i (xs.drop (k + 1)) fr := by
  rw [drop_cons hx, ordGo, hf]
  rfl
theorem ordIn_more {f : ByteArray → Option Int} {x : ByteArray} {i : Int} {r fs : List Ent} {k : Nat} {y : Ent} (hy : fs[k]? = some y) (h : lessB y.1 x = true) : ordIn f x i r (fs.drop k) = y :: ordIn f x i r (fs.drop (k + 1)) := by
  unfold ordIn
  rw [drop_cons hy, List.takeWhile_cons, List.dropWhile_cons, if_pos h, if_pos h]
  rfl
theorem ordIn_stop {f : ByteArray → Option Int} {x : ByteArray} {i : Int} {r fs : List Ent} {k : Nat} {y : Ent} (hy : fs[k]? = some y) (h : lessB y.1 x = false) : ordIn f x i r (fs.drop k) = (x, i) :: ordGo f r (fs.drop k) := by
  unfold ordIn
  rw [drop_cons hy, List.takeWhile_cons, List.dropWhile_cons, if_neg (by simp [h]), if_neg (by simp [h])]
  rfl
theorem ordIn_end {f : ByteArray → Option Int} {x : ByteArray} {i : Int} {r fs : List Ent} {k : Nat} (h : fs.length ≤ k) : ordIn f x i r (fs.drop k) = (x, i) :: ordGo f r (fs.drop k) := by
  rw [List.drop_of_length_le h]
  rfl
theorem ordGo_end {f : ByteArray → Option Int} {xs fr : List Ent} {k : Nat} (h : xs.length ≤ k) : ordGo f (xs.drop k) fr = fr := by
  rw [List.drop_of_length_le h]
  rfl

/-! ### a map of numbers -/
/-- the map says true of the numbers of which f does -/
def RepI (D : DataW Unit) (f : Int → Bool) : Prop := IsMap D ∧ ∀ i z, D.atKey (.int .i64 i) z = if f i = true then .lit (.bool true) else z
theorem RepI.empty : RepI (.map []) (fun _ => false) := ⟨isMap_empty, fun _ _ => rfl⟩
theorem RepI.put {D : DataW Unit} {f : Int → Bool} (h : RepI D f) (n : Int) : RepI (D.put (.int .i64 n) (.lit (.bool true))) (fun i => f i || decide (n = i)) := by
  refine ⟨h.1.put _ _, fun i z => ?_⟩
  by_cases hs : n = i
  · rw [← hs, atKey_put_same h.1 (show WideAt.IsKeyLit (.int .i64 n) from trivial)]; simp
  · rw [atKey_put_other (fun e => hs (by injection e with _ e; exact e.symm)), h.2]
    simp [hs]
/-- what stands between: all that stood, all that came of the names, and no more -/
structure Got (D : DataW Unit) (left : Lit → Bool) (l : List Ent) (f g : Int → Bool) : Prop where
  keep : ∀ i, f i = true → g i = true
  only : ∀ i, g i = true → f i = true ∨ ∃ e ∈ l, e.2 = i
  come : ∀ s i, left (keyL s) = false → (∀ z, D.atKey (keyL s) z = .lit (.int .i64 i)) → g i = true
theorem Got.start (D : DataW Unit) (l : List Ent) (f : Int → Bool) : Got D (Maps.has D) l f f :=
  ⟨fun _ h => h, fun _ h => .inl h, fun s i hl ha => by rw [has_true_of_atKey ha] at hl; cases hl⟩
theorem Got.step {D : DataW Unit} {left : Lit → Bool} {l : List Ent} {f g : Int → Bool} {t : ByteArray} {j : Int} (h : Got D left l f g) (hr : Rep D l) (ha : ∀ z, D.atKey (keyL t) z = .lit (.int .i64 j)) :
    Got D (fun z => left z && !z.sameKey (keyL t)) l f (fun i => g i || decide (j = i)) := by
  refine ⟨fun i hi => by simp [h.keep i hi], fun i hi => ?_, fun s i hl ha2 => ?_⟩
  · rw [Bool.or_eq_true, decide_eq_true_eq] at hi
    rcases hi with hi | rfl
    · exact h.only i hi
    · refine .inr ?_
      have h1 := ha (.lit (.bool true))
      rw [hr.2] at h1
      cases e : entAt l t with
      | none => rw [e] at h1; cases h1
      | some i =>
        rw [e] at h1
        simp only [DataW.lit.injEq, Lit.int.injEq, true_and] at h1
        exact ⟨_, at_mem e, h1⟩
  · by_cases e : s = t
    · subst e
      have := (ha (.lit (.bool true))).symm.trans (ha2 _)
      simp only [DataW.lit.injEq, Lit.int.injEq, true_and] at this
      simp [this]
    · have hk : (keyL s).sameKey (keyL t) = false := sameKey_ne (keyL_ne e)
      rw [h.come s i (by simpa [hk] using hl) ha2]
      rfl
def idsIn (l : List Ent) (f : Int → Bool) (i : Int) : Bool := f i || l.any fun e => decide (e.2 = i)
theorem Got.end_ {D : DataW Unit} {left : Lit → Bool} {l : List Ent} {f g : Int → Bool} (h : Got D left l f g) (hr : Rep D l) (hs : Srt l) (hl : ∀ kl, left kl = false) : g = idsIn l f := by
  funext i
  rw [Bool.eq_iff_iff]
  unfold idsIn
  rw [Bool.or_eq_true, List.any_eq_true]
  constructor
  · intro hi
    rcases h.only i hi with h2 | ⟨e, he, h2⟩
    · exact .inl h2
    · exact .inr ⟨e, he, by simpa using h2⟩
  · rintro (h2 | ⟨e, he, h2⟩)
    · exact h.keep i h2
    · obtain rfl : e.2 = i := by simpa using h2
      exact h.come e.1 e.2 (hl _) (hr.at (mem_at hs he))

end Go.Proofs.YtkibddcjogfklaaGreatDoor.ik

namespace Go.Proofs.YtkibddcjogfklaaGreatDoor.ik
open Go Go.Maps
open kit strs recs disk deed

/-- the numbers that some name stands for behind at most k of the steps -/
def namedK (old : List Ent) (st : List ByteArray) (k : Nat) (i : Int) : Bool := (List.range (k + 1)).any fun j => ((stepsTo old (st.take j)).getD []).any fun e => decide (e.2 = i)
theorem named_used (d : D) (n : Nod) : namedK d.old d.steps d.steps.length n.1 = usedN d n := rfl
theorem named_zero (old : List Ent) (st : List ByteArray) : namedK old st 0 = idsIn old (fun _ => false) := by
  funext i
  unfold namedK idsIn
  simp [stepsTo]
theorem named_next {old l : List Ent} {st : List ByteArray} {k : Nat} (h : stepsTo old (st.take (k + 1)) = some l) : namedK old st (k + 1) = idsIn l (namedK old st k) := by
  funext i
  unfold namedK idsIn
  rw [List.range_succ, List.any_append, List.any_cons, List.any_nil, Bool.or_false, h]
  rfl
/-- all steps are right ones -/
def AllSteps (old : List Ent) (st : List ByteArray) : Prop := ∀ k, k ≤ st.length → ∃ l, stepsTo old (st.take k) = some l ∧ Srt l ∧ Nok l ∧ l.length ≤ 16
theorem AllSteps.of {x : D} (h : okHist x = true) : AllSteps x.old x.steps := fun k hk => by
  unfold okHist at h
  rw [List.all_eq_true] at h
  have h := h k (List.mem_range.2 (by omega))
  unfold okAt histAt at h
  cases hh : stepsTo x.old (x.steps.take k) with
  | none => rw [hh] at h; cases h
  | some l =>
    rw [hh] at h
    simp only [Bool.and_eq_true] at h
    obtain ⟨a, b⟩ := ents_srt h.1
    exact ⟨l, rfl, a, b, (ents_small h.1).1⟩
theorem AllSteps.step {old : List Ent} {st : List ByteArray} (h : AllSteps old st) {k : Nat} {s : ByteArray} {l : List Ent} (hx : st[k]? = some s) (hl : stepsTo old (st.take k) = some l) : ∃ l', doStep l s = some l' ∧ stepsTo old (st.take (k + 1)) = some l' := by
  have hk := (List.getElem?_eq_some_iff.1 hx).1
  obtain ⟨l', h1, _⟩ := h (k + 1) (by omega)
  have h2 := stepsTo_snoc (l := old) hx
  rw [hl, h1, Option.bind_some] at h2
  exact ⟨l', h2.symm, h1⟩

end Go.Proofs.YtkibddcjogfklaaGreatDoor.ik

namespace Go.Proofs.YtkibddcjogfklaaGreatDoor.deed
open Go.RowKit
open kit strs recs disk kd

/-- Block b holds the disk; it and the four lists are owned from B on. -/
structure Pen (B : Nat) (w : World) (b : Nat) (sN sE sO sS : Value) (d : D) : Prop where
  box : disk.Box w b [sN, sE, sO, sS, .int .i64 d.room, .int .i64 d.next]
  fz : ∀ j, w.frozen? ⟨b, j, none⟩ = false
  tb : ∃ cs, w.heap[b]? = some (.cells cs 32)
  own : OwnDisk B w (.agg #[sN, sE, sO, sS, .int .i64 d.room, .int .i64 d.next]) d
  hb : B ≤ b
  hs : B ≤ w.heap.size
section
variable {B n b : Nat} {w w' : World} {sN sE sO sS u : Value} {d : D}
theorem Pen.below (h : Pen B w b sN sE sO sS d) (g : Below w.heap.size w w') : Pen B w' b sN sE sO sS d := by
  obtain ⟨cs, tb⟩ := h.tb
  exact ⟨h.box.below g, frozen_below h.fz h.box.1 g, ⟨cs, (g.block b h.box.1).trans tb⟩, disk_below h.own g, h.hb, Nat.le_trans h.hs g.size⟩
theorem Pen.is (h : Pen B w b sN sE sO sS d) : IsDisk w (.agg #[sN, sE, sO, sS, .int .i64 d.room, .int .i64 d.next]) d := h.own.is
theorem Pen.setE {es : List Ent} (h : Pen B w b sN sE sO sS d) (hb : Below w.heap.size w w') (hu : OwnE w.heap.size w' u es) :
    Pen B (w'.setCell ⟨b, 1, none⟩ u) b sN u sO sS { d with ents := es } := by
  have h' := h.below hb
  obtain ⟨cs, tb⟩ := h'.tb
  obtain ⟨q, hu⟩ := hu
  obtain ⟨_, _, _, _, nN, nE, nO, nS, hv, rN, rE, rO, rS, o1, o2, o3, o4, o5, o6⟩ := h.own
  simp only [Value.agg.injEq, Array.mk.injEq, List.cons.injEq] at hv
  obtain ⟨rfl, rfl, rfl, rfl, _⟩ := hv
  have hu' := own_base hu h.hs
  exact ⟨box_set h'.box (by simp), frozen_set h'.fz, ⟨_, heap_setCell_same w' b 1 cs _ _ tb⟩,
    disk_off ⟨_, _, _, _, nN, q, nO, nS, rfl, own_below rN hb, hu', own_below rO hb, own_below rS hb, off_of rN hu (Nat.le_refl _), o2, o3, off_symm (off_of rO hu (Nat.le_refl _)), off_symm (off_of rS hu (Nat.le_refl _)), o6⟩ tb, h.hb, by simpa using h'.hs⟩
theorem Pen.setO {es : List Ent} (h : Pen B w b sN sE sO sS d) (hb : Below w.heap.size w w') (hu : OwnE w.heap.size w' u es) :
    Pen B (w'.setCell ⟨b, 2, none⟩ u) b sN sE u sS { d with old := es } := by
  have h' := h.below hb
  obtain ⟨cs, tb⟩ := h'.tb
  obtain ⟨q, hu⟩ := hu
  obtain ⟨_, _, _, _, nN, nE, nO, nS, hv, rN, rE, rO, rS, o1, o2, o3, o4, o5, o6⟩ := h.own
  simp only [Value.agg.injEq, Array.mk.injEq, List.cons.injEq] at hv
  obtain ⟨rfl, rfl, rfl, rfl, _⟩ := hv
  have hu' := own_base hu h.hs
  exact ⟨box_set h'.box (by simp), frozen_set h'.fz, ⟨_, heap_setCell_same w' b 2 cs _ _ tb⟩,
    disk_off ⟨_, _, _, _, nN, nE, q, nS, rfl, own_below rN hb, own_below rE hb, hu', own_below rS hb, o1, off_of rN hu (Nat.le_refl _), o3, off_of rE hu (Nat.le_refl _), o5, off_symm (off_of rS hu (Nat.le_refl _))⟩ tb, h.hb, by simpa using h'.hs⟩
/-- No steps: nil. -/
theorem Pen.setS0 (h : Pen B w b sN sE sO sS d) :
    Pen B (w.setCell ⟨b, 3, none⟩ (.slice none 0 0)) b sN sE sO (.slice none 0 0) { d with steps := [] } := by
  obtain ⟨cs, tb⟩ := h.tb
  obtain ⟨_, _, _, _, nN, nE, nO, nS, hv, rN, rE, rO, rS, o1, o2, o3, o4, o5, o6⟩ := h.own
  simp only [Value.agg.injEq, Array.mk.injEq, List.cons.injEq] at hv
  obtain ⟨rfl, rfl, rfl, rfl, _⟩ := hv
  have off0 : ∀ v : Value, Off v (.slice none 0 0) := fun v g _ e => by simp [Value.ownBlock] at e
  exact ⟨box_set h.box (by simp), frozen_set h.fz, ⟨_, heap_setCell_same w b 3 cs _ _ tb⟩,
    disk_off ⟨_, _, _, _, nN, nE, nO, 0, rfl, rN, rE, rO, World.ownsRow_nil _ _ _ _, o1, o2, off0 _, o4, off0 _, off0 _⟩ tb, h.hb, by simpa using h.hs⟩
/-- Nodes that were made out of the disk's own are put into the box. -/
theorem Pen.setN {ns : List Nod} (h : Pen B w b sN sE sO sS d) (hg : w.grownBy w' sN.ownBlock) (hu : w'.ownsRow B 41 3 u n (cellsN ns)) :
    Pen B (w'.setCell ⟨b, 0, none⟩ u) b u sE sO sS { d with nodes := ns } := by
  obtain ⟨cs, tb⟩ := h.tb
  obtain ⟨_, _, _, _, nN, nE, nO, nS, hv, rN, rE, rO, rS, o1, o2, o3, o4, o5, o6⟩ := h.own
  simp only [Value.agg.injEq, Array.mk.injEq, List.cons.injEq] at hv
  obtain ⟨rfl, rfl, rfl, rfl, _⟩ := hv
  have rE' := own_grown rE hg (off_symm o1)
  have rO' := own_grown rO hg (off_symm o2)
  have rS' := own_grown rS hg (off_symm o3)
  have fb := row_ne rN tb (by decide)
  have tb1 := tb_kept tb hg h.box.1 (fun e => fb e.symm)
  exact ⟨box_set (box_grown h.box hg fb) (by simp), frozen_set (frozen_grown h.fz h.box.1 hg fb), ⟨_, heap_setCell_same w' b 0 cs _ _ tb1⟩,
    disk_off ⟨_, _, _, _, n, nE, nO, nS, rfl, hu, rE', rO', rS', off_type hu rE' (by decide), off_type hu rO' (by decide), off_type hu rS' (by decide), o4, o5, o6⟩ tb1, h.hb, by simpa using Nat.le_trans h.hs hg.size⟩
/-- Steps that an append has made out of the disk's own are put into the box. -/
theorem Pen.setS {ss : List ByteArray} (h : Pen B w b sN sE sO sS d) (hg : w.grownBy w' sS.ownBlock) (hu : w'.ownsRow B 9 1 u n (ss.map Value.string)) :
    Pen B (w'.setCell ⟨b, 3, none⟩ u) b sN sE sO u { d with steps := ss } := by
  obtain ⟨cs, tb⟩ := h.tb
  obtain ⟨_, _, _, _, nN, nE, nO, nS, hv, rN, rE, rO, rS, o1, o2, o3, o4, o5, o6⟩ := h.own
  simp only [Value.agg.injEq, Array.mk.injEq, List.cons.injEq] at hv
  obtain ⟨rfl, rfl, rfl, rfl, _⟩ := hv
  have rN' := own_grown rN hg o3
  have rE' := own_grown rE hg o5
  have rO' := own_grown rO hg o6
  have fb := row_ne rS tb (by decide)
  have tb1 := tb_kept tb hg h.box.1 (fun e => fb e.symm)
  exact ⟨box_set (box_grown h.box hg fb) (by simp), frozen_set (frozen_grown h.fz h.box.1 hg fb), ⟨_, heap_setCell_same w' b 3 cs _ _ tb1⟩,
    disk_off ⟨_, _, _, _, nN, nE, nO, n, rfl, rN', rE', rO', hu, o1, o2, off_type rN' hu (by decide), o4, off_type rE' hu (by decide), off_type rO' hu (by decide)⟩ tb1, h.hb, by simpa using Nat.le_trans h.hs hg.size⟩
/-- Another number that the next node will have. -/
theorem Pen.setX {x : Int} (h : Pen B w b sN sE sO sS d) : Pen B (w.setCell ⟨b, 5, none⟩ (.int .i64 x)) b sN sE sO sS { d with next := x } := by
  obtain ⟨cs, tb⟩ := h.tb
  obtain ⟨_, _, _, _, nN, nE, nO, nS, hv, rest⟩ := disk_off (j := 5) (u := .int .i64 x) h.own tb
  simp only [Value.agg.injEq, Array.mk.injEq, List.cons.injEq] at hv
  obtain ⟨rfl, rfl, rfl, rfl, _⟩ := hv
  exact ⟨box_set h.box (by simp), frozen_set h.fz, ⟨_, heap_setCell_same w b 5 cs _ _ tb⟩, ⟨_, _, _, _, nN, nE, nO, nS, rfl, rest⟩, h.hb, by simpa using h.hs⟩
/-- the four lists of the box -/
theorem Pen.shapes (h : Pen B w b sN sE sO sS d) :
    ∃ aN aE aO aS cN cE cO cS, sN = .slice aN d.nodes.length cN ∧ sE = .slice aE d.ents.length cE ∧ sO = .slice aO d.old.length cO ∧ sS = .slice aS d.steps.length cS ∧
      AtN w aN d.nodes.length d.nodes ∧ AtE w aE d.ents.length d.ents ∧ AtE w aO d.old.length d.old ∧ strs.At w aS d.steps.length d.steps := by
  obtain ⟨aN, aE, aO, aS, nN, cN, nE, cE, nO, cO, nS, cS, hv, h1, h2, h3, h4⟩ := h.own.is
  simp only [Value.agg.injEq, Array.mk.injEq, List.cons.injEq] at hv
  obtain ⟨rfl, rfl, rfl, rfl, _⟩ := hv
  obtain rfl := h1.len
  obtain rfl := h2.len
  obtain rfl := h3.len
  obtain rfl := h4.1
  exact ⟨aN, aE, aO, aS, cN, cE, cO, cS, rfl, rfl, rfl, rfl, h1, h2, h3, h4⟩
theorem Pen.rowS (h : Pen B w b sN sE sO sS d) : w.ownsRow B 9 1 sS d.steps.length (d.steps.map Value.string) := by
  obtain ⟨_, _, _, _, nN, nE, nO, nS, hv, rN, rE, rO, rS, _⟩ := h.own
  simp only [Value.agg.injEq, Array.mk.injEq, List.cons.injEq] at hv
  obtain ⟨rfl, rfl, rfl, rfl, _⟩ := hv
  have := rS.1
  rw [List.length_map, Nat.mul_one] at this
  rw [this]
  exact rS
theorem Pen.rowN (h : Pen B w b sN sE sO sS d) : w.ownsRow B 41 3 sN d.nodes.length (cellsN d.nodes) := by
  obtain ⟨_, _, _, _, nN, nE, nO, nS, hv, rN, rE, rO, rS, _⟩ := h.own
  simp only [Value.agg.injEq, Array.mk.injEq, List.cons.injEq] at hv
  obtain ⟨rfl, rfl, rfl, rfl, _⟩ := hv
  have := rN.1
  rw [cellsN_len] at this
  have e : d.nodes.length = nN := by omega
  rw [e]
  exact rN
/-- A cell of a node is written: the nodes that the cells then say are laid. -/
theorem Pen.node {g c j : Nat} {ns : List Nod} (h : Pen B w b (.slice (some ⟨g, 0, none⟩) d.nodes.length c) sE sO sS d) (hc : (cellsN d.nodes).set j u = cellsN ns) :
    Pen B (w.setCell ⟨g, j, none⟩ u) b (.slice (some ⟨g, 0, none⟩) d.nodes.length c) sE sO sS { d with nodes := ns } ∧ B ≤ g := by
  have rN0 := h.rowN
  obtain ⟨cs, tb⟩ := h.tb
  obtain ⟨_, _, _, _, nN, nE, nO, nS, hv, rN, rE, rO, rS, o1, o2, o3, o4, o5, o6⟩ := h.own
  simp only [Value.agg.injEq, Array.mk.injEq, List.cons.injEq] at hv
  obtain ⟨rfl, rfl, rfl, rfl, _⟩ := hv
  have hgb : g ≠ b := fun e => row_ne rN0 tb (by decide) (by rw [e]; rfl)
  have hs := (rN0.stored j u).1
  rw [hc] at hs
  exact ⟨⟨box_far h.box hgb, frozen_set h.fz, ⟨cs, (heap_setCell_other w ⟨g, j, none⟩ b u (fun e => hgb e.symm)).trans tb⟩,
    ⟨_, _, _, _, d.nodes.length, nE, nO, nS, rfl, hs, own_setOther rE _ _ _ (o1 g rfl), own_setOther rO _ _ _ (o2 g rfl), own_setOther rS _ _ _ (o3 g rfl), o1, o2, o3, o4, o5, o6⟩, h.hb, by simpa using h.hs⟩, (own_block_ge rN0 g rfl).1⟩
/-- while a list of its own grows, the box stays -/
theorem Pen.mid {e : TypeId} {s m : Nat} {xs : List Value} (h : Pen B w b sN sE sO sS d) (hu : w.ownsRow B e s u m xs) (hne : e ≠ 32) (hg : w.grownBy w' u.ownBlock) :
    disk.Box w' b [sN, sE, sO, sS, .int .i64 d.room, .int .i64 d.next] ∧ ∀ j, w'.frozen? ⟨b, j, none⟩ = false := by
  obtain ⟨cs, tb⟩ := h.tb
  have fb := row_ne hu tb hne
  exact ⟨box_grown h.box hg fb, frozen_grown h.fz h.box.1 hg fb⟩
end
/-- what a deed leaves: another disk in the same box -/
def PenR (B b : Nat) (d : D) (w w' : World) : Prop := ∃ sN sE sO sS, Pen B w' b sN sE sO sS d ∧ Below B w w'

end Go.Proofs.YtkibddcjogfklaaGreatDoor.deed

namespace Go.Proofs.YtkibddcjogfklaaGreatDoor.deed
open Go.RowKit
open kit strs recs disk kd

def OwnN (B : Nat) (w : World) (v : Value) (xs : List Nod) : Prop := ∃ n, w.ownsRow B 41 3 v n (cellsN xs)

set_option maxHeartbeats 400000 in
theorem cloneE (a : Option Addr) (c n : Nat) (xs : List Ent) (w : World) (hm : n ≤ 2000000) (ha : AtE w a n xs) :
    Calls Tryz.prog 51 #[.slice a n c] w fun e w' => ∃ u, e = .returned u ∧ OwnE w.heap.size w' u xs ∧ Below w.heap.size w w' := by
  obtain ⟨i0, hi, hz0, hz1, hz2⟩ := info_parts Tryz.infoEnt
  have q22 : ∀ (w : World) (a : Option Addr) (n c n' c' : Nat), (binOp .eql 30 (.slice a n c) (.slice none n' c')).run Tryz.prog w = .ok (.bool a.isNone) w := fun w a n c n' c' => Lib.run_eql_slice_nil w _ _ a n c n' c' Tryz.underlying30
  have hcel : Cells w a n 2 (cellsE xs) := ha
  clear ha
  cases a with
  | none =>
    obtain rfl : n = 0 := hcel.2.elim id fun ⟨_, _, h, _⟩ => by cases h
    have hnil : cellsE xs = [] := List.length_eq_zero_iff.1 (by have := hcel.1; omega)
    have HN := Lib.hid hnil
    clear hcel hnil
    go_enter Tryz.func51, Tryz.ntmps51
    go_wp2
    go_ret
    exact ⟨_, rfl, ⟨0, by rw [HN.out]; exact World.ownsRow_nil _ _ _ _⟩, Below.refl _ _⟩
  | some g =>
    have own0 : (w.alloc (.cells #[] 66)).ownsRow w.heap.size 66 2 (.slice (some ⟨w.heap.size, 0, none⟩) 0 0) 0 [] := World.ownsRow_made _ _ _ (Nat.le_refl _) (by decide) rfl
    have bo0 : w.heap.size ≤ (w.alloc (.cells #[] 66)).heap.size := by simp
    have C0 := Lib.hid (show Cells (w.alloc (.cells #[] 66)) (some g) n 2 (cellsE xs) from hcel.below ((Below.refl _ _).alloc (Nat.le_refl _) _))
    have bn0 : 0 + n ≤ maxLen := by unfold maxLen; omega
    have bm0 : (0 + n) * 24 ≤ 140737488355328 := by omega
    clear hcel
    go_enter Tryz.func51, Tryz.ntmps51
    go_wp2_with (at_builtin; refine list_copy (by rfl) (.tmp 5) (.tmp 6) 30 (by rfl) w.heap.size 66 i0 (.agg #[.string { data := #[] }, .int .i64 0]) 2 24 Tryz.underlying30 hi hz0 hz1 hz2 (by rfl) (by decide) _ 0 [] own0 bo0 (some g) n c (cellsE xs) C0.out (oneE xs) bn0 bm0 (by rfl) (by rfl) ?_; intro v1 w1 hown1 hg1)
    have hb1 : Below w.heap.size w w1 := ((Below.refl w.heap.size w).alloc (Nat.le_refl _) _).grown hg1 bo0 (fun k hk => by simp [Value.ownBlock] at hk; omega)
    rw [List.nil_append, Nat.zero_add] at hown1
    obtain ⟨al, cl, rfl, _, _⟩ := own_shape hown1
    go_ret
    exact ⟨_, rfl, ⟨_, hown1⟩, hb1⟩

theorem len_two {n : Nat} (h : n ≤ 1048576) : n ≤ 2000000 := by omega
end Go.Proofs.YtkibddcjogfklaaGreatDoor.deed
