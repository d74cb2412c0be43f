/-
  What is read behind a deed: the facts that FnDeeds asks for.
-/
import Derived.Test.YtkibddcjogfklaaGreatDoorDrX
namespace Go.Proofs.YtkibddcjogfklaaGreatDoor.deed
open Go.RowKit
open kit strs recs disk kd

theorem has_entAt {l : List Ent} {s : ByteArray} (h : hasE l s = true) : entAt l s = some (idE l s) := by
  unfold hasE at h
  unfold idE
  cases e : entAt l s with
  | none => rw [e] at h; cases h
  | some i => rfl
/-- a right disk's name: its node is read -/
theorem right_at {d : D} {s : ByteArray} (h : diskOk d = true) (hs : hasE d.ents s = true) : nodeAt d s = some (nodeN d s) ∧ d.nodes[nodeK d s]? = some (nodeN d s) ∧ nodeIx d.nodes (idE d.ents s) = some (nodeK d s) ∧ (nodeN d s).1 = idE d.ents s := by
  obtain ⟨k, nd, h1, h2⟩ := right_node h hs
  obtain ⟨n', h3, h4⟩ := nodeIx_lt _ _ _ h1
  rw [h2] at h3
  cases h3
  rw [nodeN_is h1 h2, nodeK_is h1]
  exact ⟨nodeAt_some hs h1 h2, h2, h1, h4⟩
theorem set_ids {ns : List Nod} {k : Nat} {n m : Nod} (hx : ns[k]? = some n) (hi : m.1 = n.1) : (ns.set k m).map (·.1) = ns.map (·.1) := by
  rw [List.map_set]
  apply List.ext_getElem?
  intro j
  rw [List.getElem?_set]
  split
  · rename_i e
    subst e
    rw [List.getElem?_map, hx]
    split
    · rw [hi]; rfl
    · rename_i e2
      rw [List.length_map] at e2
      exact absurd (List.getElem?_eq_some_iff.1 hx).1 e2
  · rfl
/-- another text in the node of a name is what is read by it -/
theorem set_at {d : D} {s : ByteArray} {m : Nod} (h : diskOk d = true) (hs : hasE d.ents s = true) (hi : m.1 = (nodeN d s).1) : nodeAt (setNode d (nodeK d s) m) s = some m := by
  obtain ⟨_, h2, h3, _⟩ := right_at h hs
  refine nodeAt_some (k := nodeK d s) hs ?_ ?_
  · show nodeIx (d.nodes.set _ m) (idE d.ents s) = _
    rw [nodeIx_ids (set_ids h2 hi)]
    exact h3
  · show (d.nodes.set _ m)[nodeK d s]? = _
    rw [List.getElem?_set_self (List.getElem?_eq_some_iff.1 h2).1]
theorem used_set {d : D} {s : ByteArray} {m : Nod} (h : diskOk d = true) (hs : hasE d.ents s = true) : usedOn (setNode d (nodeK d s) m) + (nodeN d s).2.1.size = usedOn d + m.2.1.size := by
  obtain ⟨_, h2, _, _⟩ := right_at h hs
  have ht := tot_set (d.nodes.map (·.2.1)) (nodeK d s) (nodeN d s).2.1 m.2.1 (by rw [List.getElem?_map, h2]; rfl)
  unfold usedOn
  show tot ((d.nodes.set (nodeK d s) m).map (·.2.1)) + _ = _
  rw [List.map_set]
  exact ht
theorem ids_upto {next : Int} : ∀ {l : List Nod} {p : Int}, ik.idsFrom next p l = true → ∀ n ∈ l, n.1 < next ∧ 0 ≤ n.2.2 ∧ n.2.2 ≤ (n.2.1.size : Int)
  | [], _, _, n, hn => by cases hn
  | x :: r, p, h, n, hn => by
    unfold ik.idsFrom at h
    rw [Bool.and_eq_true, decide_eq_true_eq] at h
    rcases List.mem_cons.1 hn with rfl | hn
    · exact ⟨h.1.2.1, h.1.2.2⟩
    · exact ids_upto h.2 n hn
theorem right_nod {d : D} (h : diskOk d = true) : ∀ n ∈ d.nodes, n.1 < d.next ∧ 0 ≤ n.2.2 ∧ n.2.2 ≤ (n.2.1.size : Int) := by
  have b := (right_parts h).2.1
  rw [ik.ids_none] at b
  exact ids_upto b
/-- behind what is laid: right, the same names, the old text ahead, all of it or the disk is full -/
theorem append_facts {d : D} {s t : ByteArray} (h : diskOk d = true) (hs : hasE d.ents s = true) :
    ∃ (x : D) (n : Int) (u : ByteArray), appendFile d s t = (x, n) ∧ diskOk x = true ∧ hasE x.ents s = true ∧ textR (nodeAt x s) = (nodeN d s).2.1 ++ u ∧ ((n = 0 ∧ u = t) ∨ (n = 5 ∧ (usedOn x : Int) = x.room)) := by
  obtain ⟨_, h2, _, _⟩ := right_at h hs
  have hm := right_nod h _ (List.mem_of_getElem? h2)
  have hr := right_room h
  unfold appendFile
  rw [if_neg (by rw [h, hs]; simp)]
  by_cases hf : d.room - (usedOn d : Int) < (t.size : Int)
  · rw [if_pos hf]
    have hsz : (t.extract 0 (d.room - (usedOn d : Int)).toNat).size = (d.room - (usedOn d : Int)).toNat := by rw [ByteArray.size_extract]; omega
    refine ⟨_, _, t.extract 0 (d.room - (usedOn d : Int)).toNat, rfl, ?_, hs, ?_, .inr ⟨rfl, ?_⟩⟩
    · refine right_set h h2 rfl ⟨hm.2.1, ?_⟩ ?_
      · show (nodeN d s).2.2 ≤ (((nodeN d s).2.1 ++ _).size : Int)
        rw [ByteArray.size_append]
        omega
      · show (usedOn d : Int) + (((nodeN d s).2.1 ++ _).size : Int) ≤ _
        rw [ByteArray.size_append, hsz]
        omega
    · exact congrArg textR (set_at h hs (by rfl))
    · have hu := used_set (m := ((nodeN d s).1, (nodeN d s).2.1 ++ t.extract 0 (d.room - (usedOn d : Int)).toNat, (nodeN d s).2.2)) h hs
      have e : ((nodeN d s).2.1 ++ t.extract 0 (d.room - (usedOn d : Int)).toNat).size = (nodeN d s).2.1.size + (d.room - (usedOn d : Int)).toNat := by rw [ByteArray.size_append, hsz]
      show _ = d.room
      simp only [e] at hu
      omega
  · rw [if_neg hf]
    refine ⟨_, _, t, rfl, ?_, hs, ?_, .inl ⟨rfl, rfl⟩⟩
    · refine right_set h h2 rfl ⟨hm.2.1, ?_⟩ ?_
      · show (nodeN d s).2.2 ≤ (((nodeN d s).2.1 ++ t).size : Int)
        rw [ByteArray.size_append]
        omega
      · show (usedOn d : Int) + (((nodeN d s).2.1 ++ t).size : Int) ≤ _
        rw [ByteArray.size_append]
        omega
    · exact congrArg textR (set_at h hs (by rfl))
theorem sync_facts {d : D} {s : ByteArray} (h : diskOk d = true) (hs : hasE d.ents s = true) : ∃ x, syncFile d s = (x, 0) ∧ diskOk x = true ∧ hasE x.ents s = true := by
  obtain ⟨_, h2, _, _⟩ := right_at h hs
  unfold syncFile
  rw [if_neg (by rw [h, hs]; simp)]
  exact ⟨_, rfl, right_set h h2 rfl ⟨(show (0 : Int) ≤ ((nodeN d s).2.1.size : Int) by omega), Int.le_refl _⟩ (show (usedOn d : Int) + ((nodeN d s).2.1.size : Int) ≤ _ by have := right_room h; omega), hs⟩
theorem remove_facts {d : D} {s : ByteArray} (h : diskOk d = true) (hs : hasE d.ents s = true) : ∃ x, removeFile d s = (x, 0) ∧ diskOk x = true ∧ hasE x.ents s = false := by
  unfold removeFile
  rw [if_neg (by rw [h, hs]; simp)]
  obtain ⟨h1, h2, h3⟩ := right_remove h hs
  refine ⟨_, rfl, clean_right h1 h2 h3, ?_⟩
  show hasE (dropE d.ents s) s = false
  unfold hasE
  rw [ik.drop_at, if_pos rfl]
  rfl
theorem create_there {d : D} {s : ByteArray} (h : diskOk d = true) (hn : nam.nok s = true) (hs : hasE d.ents s = true) : createFile d s = (d, 2) := by
  unfold createFile
  rw [if_neg (by rw [h]; simp), if_neg (by rw [hn]; simp), if_pos hs]
theorem create_facts {d : D} {s : ByteArray} (h : diskOk d = true) (hs : hasE d.ents s = false) (hn : nam.nok s = true) :
    ∃ x n, createFile d s = (x, n) ∧ diskOk x = true ∧ ((n = 0 ∧ (nodeAt x s).isSome = true ∧ textR (nodeAt x s) = { data := #[] } ∧ (createFile x s).2 = 2) ∨ n = 4) := by
  unfold createFile
  rw [if_neg (by rw [h]; simp), if_neg (by rw [hn]; simp), if_neg (by rw [hs]; simp)]
  by_cases hm : 16 ≤ d.ents.length ∨ 64 ≤ d.nodes.length ∨ 1000000000 ≤ d.next
  · rw [if_pos hm]
    exact ⟨d, 4, rfl, h, .inr rfl⟩
  · rw [if_neg hm]
    obtain ⟨h1, h2, h3⟩ := right_create h hn (by omega) (by omega) (by omega)
    have hc : diskOk (clean (createMid d s)) = true := clean_right h1 h2 h3
    have hat : entAt (clean (createMid d s)).ents s = some d.next := by
      show entAt (putE d.ents (s, d.next)) s = _
      rw [ik.putE_ins _ (right_srt h).1, ik.ins_at, if_pos rfl]
    have hhas : hasE (clean (createMid d s)).ents s = true := by unfold hasE; rw [hat]; rfl
    have hid : idE (clean (createMid d s)).ents s = d.next := by unfold idE; rw [hat]; rfl
    obtain ⟨r1, r2, _, r4⟩ := right_at hc hhas
    rw [hid] at r4
    have hmem : nodeN (clean (createMid d s)) s ∈ d.nodes ++ [((d.next, { data := #[] }, 0) : Nod)] := (List.mem_filter.1 (List.mem_of_getElem? r2)).1
    have hnew : nodeN (clean (createMid d s)) s = (d.next, { data := #[] }, 0) := by
      rcases List.mem_append.1 hmem with hx | hx
      · have := (right_nod h _ hx).1
        omega
      · exact List.mem_singleton.1 hx
    refine ⟨_, _, rfl, hc, .inl ⟨rfl, ?_, ?_, ?_⟩⟩
    · show (nodeAt (clean (createMid d s)) s).isSome = true
      rw [r1]; rfl
    · show textR (nodeAt (clean (createMid d s)) s) = _
      rw [r1, hnew]; rfl
    · exact congrArg Prod.snd (create_there hc hn hhas)

end Go.Proofs.YtkibddcjogfklaaGreatDoor.deed

namespace Go.Proofs.YtkibddcjogfklaaGreatDoor.deed
open Go.RowKit
open kit strs recs disk kd

theorem ids_over {next : Int} : ∀ {l : List Nod} {p : Int}, ik.idsFrom next p l = true → ∀ n ∈ l, p < n.1
  | [], _, _, n, hn => by cases hn
  | x :: r, p, h, n, hn => by
    unfold ik.idsFrom at h
    rw [Bool.and_eq_true, decide_eq_true_eq] at h
    rcases List.mem_cons.1 hn with rfl | hn
    · exact h.1.1
    · have := ids_over h.2 n hn
      omega
theorem ids_one {next : Int} : ∀ {l : List Nod} {p : Int}, ik.idsFrom next p l = true → ∀ n ∈ l, ∀ m ∈ l, n.1 = m.1 → n = m
  | [], _, _, n, hn, _, _, _ => by cases hn
  | x :: r, p, h, n, hn, m, hm, e => by
    unfold ik.idsFrom at h
    rw [Bool.and_eq_true, decide_eq_true_eq] at h
    rcases List.mem_cons.1 hn with rfl | hn'
    · rcases List.mem_cons.1 hm with rfl | hm'
      · rfl
      · have := ids_over h.2 m hm'
        omega
    · rcases List.mem_cons.1 hm with rfl | hm'
      · have := ids_over h.2 n hn'
        omega
      · exact ids_one h.2 n hn' m hm' e
theorem rename_facts {d : D} {s t : ByteArray} (h : diskOk d = true) :
    ∃ x n, renameFile d s t = (x, n) ∧ diskOk x = true ∧ (n = 0 → hasE d.ents s = true ∧ (nodeAt x t).isSome = true ∧ textR (nodeAt x t) = textR (nodeAt d s) ∧ (nodeAt x s).isSome = false) := by
  unfold renameFile
  by_cases hs : hasE d.ents s = false
  · rw [if_pos (.inr hs)]
    exact ⟨d, 3, rfl, h, fun e => by cases e⟩
  have hs : hasE d.ents s = true := by simpa using hs
  rw [if_neg (by rw [h, hs]; simp)]
  by_cases ht : nam.nok t = false ∨ s = t
  · rw [if_pos ht]
    exact ⟨d, 1, rfl, h, fun e => by cases e⟩
  rw [if_neg ht]
  have hn : nam.nok t = true := by
    cases e : nam.nok t with
    | true => rfl
    | false => exact absurd (.inl e) ht
  have hne : ¬ s = t := fun e => ht (.inr e)
  obtain ⟨h1, h2, h3⟩ := right_rename h hs hn hne
  have hc : diskOk (clean (renameMid d s t)) = true := clean_right h1 h2 h3
  have hsr := (right_srt h).1
  have hall : ∀ z, entAt (clean (renameMid d s t)).ents z = if t = z then some (idE d.ents s) else entAt (dropE d.ents s) z := fun z => by
    show entAt (putE (dropE d.ents s) (t, idE d.ents s)) z = _
    rw [ik.putE_ins _ (ik.drop_srt s hsr), ik.ins_at]
  have hat := hall t
  rw [if_pos rfl] at hat
  have hhas : hasE (clean (renameMid d s t)).ents t = true := by unfold hasE; rw [hat]; rfl
  have hid : idE (clean (renameMid d s t)).ents t = idE d.ents s := by unfold idE; rw [hat]; rfl
  obtain ⟨r1, r2, _, r4⟩ := right_at hc hhas
  obtain ⟨q1, q2, _, q4⟩ := right_at h hs
  have hmem : nodeN (clean (renameMid d s t)) t ∈ d.nodes := (List.mem_filter.1 (List.mem_of_getElem? r2)).1
  have b := (right_parts h).2.1
  rw [ik.ids_none] at b
  have hsame := ids_one b _ hmem _ (List.mem_of_getElem? q2) (by rw [r4, hid, q4])
  refine ⟨_, _, rfl, hc, fun _ => ⟨hs, ?_, ?_, ?_⟩⟩
  · show (nodeAt (clean (renameMid d s t)) t).isSome = true
    rw [r1]; rfl
  · show textR (nodeAt (clean (renameMid d s t)) t) = _
    rw [r1, q1, hsame]
  · show (nodeAt (clean (renameMid d s t)) s).isSome = false
    have hg := hall s
    rw [if_neg (fun e => hne e.symm), ik.drop_at, if_pos rfl] at hg
    rw [nodeAt_none hg]
    rfl
theorem names_facts {x : D} (h : diskOk x = true) : diskOk (syncNames x) = true ∧ (syncNames x).steps = [] ∧ (syncNames x).old = x.ents ∧ (syncNames x).ents = x.ents := by
  obtain ⟨h1, h2, h3⟩ := right_sync h
  have e : syncNames x = clean (syncMid x) := by
    unfold syncNames
    rw [if_neg (by rw [h]; simp)]
    rfl
  rw [e]
  exact ⟨clean_right h1 h2 h3, rfl, rfl, rfl⟩

end Go.Proofs.YtkibddcjogfklaaGreatDoor.deed
