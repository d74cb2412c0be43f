/-
  The laws' sameEntrys and sameNodes at two that hold the same.
-/
import Derived.Test.YtdacdbidennjhaaGreatDoorDiskX
import Derived.Test.YtdacdbidennjhaaGreatDoorDqW
import Derived.Test.YtdacdbidennjhaaGreatDoorDrX
import Derived.Test.YtdacdbidennjhaaGreatDoorInt3
import Derived.Test.YtdacdbidennjhaaGreatDoorDrZ
import Derived.Test.YtdacdbidennjhaaGreatDoorBig
namespace Go.Proofs.YtdacdbidennjhaaGreatDoor.recs
open Go.RowKit
open kit strs

set_option maxHeartbeats 400000 in
theorem sameEs (a b : Option Addr) (c d n : Nat) (xs : List Ent) (w : World) (hm : n ≤ 2000000) (ha : AtE w a n xs) (hb : AtE w b n xs) :
    Calls Tryz.prog 28 #[.slice a n c, .slice b n d] w fun e w' => e = .returned (.bool true) ∧ Below w.heap.size w w' := by
  have HA := Lib.hid ha
  have HB := Lib.hid hb
  clear ha hb
  go_enter Tryz.func28, Tryz.ntmps28
  go_wp2
  go_loopw [5] (fun i wr => ∃ k : Nat, k ≤ n ∧ i = .int .i64 k ∧ Below w.heap.size w wr) (fun i _ => n - (intOf i).toNat)
  case atStart => exact ⟨0, Nat.zero_le _, rfl, Below.refl _ _⟩
  case round =>
    obtain ⟨k, hk, rfl, hb⟩ := hrel
    by_cases hlt : k < n
    · obtain ⟨s, i, g, o, hx, rfl, hg, c1, c2⟩ := (HA.out.below hb).get hlt
      obtain ⟨s', i', h, p, hy, rfl, hh, c3, c4⟩ := (HB.out.below hb).get hlt
      obtain ⟨rfl, rfl⟩ : s = s' ∧ i = i' := by rw [hx] at hy; simpa using hy
      have i0 : (0 : Int) ≤ (k : Int) := by omega
      have i1 : (k : Int) < (n : Int) := by omega
      have hne : (s.toList == s.toList) = true := beq_self_eq_true _
      clear hx hy HA HB
      go_wp2
      go_quiet (fail)
      go_wp2
      go_roundw
      case rel => exact ⟨k + 1, by omega, by go_num, below_drewN hb _⟩
      case measure => simp [intOf]; omega
    · go_wp2
      go_ret
      exact ⟨rfl, hb⟩

set_option maxHeartbeats 400000 in
theorem sameNs (a b : Option Addr) (c d n : Nat) (xs : List Nod) (w : World) (hm : n ≤ 2000000) (ha : AtN w a n xs) (hb : AtN w b n xs) :
    Calls Tryz.prog 69 #[.slice a n c, .slice b n d] w fun e w' => e = .returned (.bool true) ∧ Below w.heap.size w w' := by
  have HA := Lib.hid ha
  have HB := Lib.hid hb
  clear ha hb
  go_enter Tryz.func69, Tryz.ntmps69
  go_wp2
  go_loopw [5] (fun i wr => ∃ k : Nat, k ≤ n ∧ i = .int .i64 k ∧ Below w.heap.size w wr) (fun i _ => n - (intOf i).toNat)
  case atStart => exact ⟨0, Nat.zero_le _, rfl, Below.refl _ _⟩
  case round =>
    obtain ⟨k, hk, rfl, hb⟩ := hrel
    by_cases hlt : k < n
    · obtain ⟨i, s, j, g, o, hx, rfl, hg, c1, c2, c3⟩ := (HA.out.below hb).get hlt
      obtain ⟨i', s', j', h, p, hy, rfl, hh, c4, c5, c6⟩ := (HB.out.below hb).get hlt
      obtain ⟨rfl, rfl, rfl⟩ : i = i' ∧ s = s' ∧ j = j' := by rw [hx] at hy; simpa using hy
      have i0 : (0 : Int) ≤ (k : Int) := by omega
      have i1 : (k : Int) < (n : Int) := by omega
      have hne : (s.toList == s.toList) = true := beq_self_eq_true _
      clear hx hy HA HB
      go_wp2
      go_quiet (fail)
      go_wp2
      go_roundw
      case rel => exact ⟨k + 1, by omega, by go_num, below_drewN hb _⟩
      case measure => simp [intOf]; omega
    · go_wp2
      go_ret
      exact ⟨rfl, hb⟩

end Go.Proofs.YtdacdbidennjhaaGreatDoor.recs

namespace Go.Proofs.YtdacdbidennjhaaGreatDoor.deed
open Go.RowKit
open kit strs recs disk kd draw num

set_option maxHeartbeats 2000000 in
set_option maxRecDepth 100000 in
theorem sameD (u v : Value) (d : D) (w : World) (h1 : d.nodes.length ≤ 1048576) (h2 : d.ents.length ≤ 1048576) (h3 : d.old.length ≤ 1048576) (h4 : d.steps.length ≤ 1048576) (hu : IsDisk w u d) (hv : IsDisk w v d) :
    Calls Tryz.prog 15 #[u, v] w fun e w' => e = .returned (.bool true) ∧ Below w.heap.size w w' := by
  obtain ⟨aN, aE, aO, aS, nN, cN, nE, cE, nO, cO, nS, cS, rfl, p1, p2, p3, p4⟩ := hu
  obtain ⟨bN, bE, bO, bS, mN, eN, mE, eE, mO, eO, mS, eS, rfl, q1, q2, q3, q4⟩ := hv
  obtain rfl := p1.len
  obtain rfl := p2.len
  obtain rfl := p3.len
  obtain rfl := p4.1
  obtain rfl := q1.len
  obtain rfl := q2.len
  obtain rfl := q3.len
  obtain rfl := q4.1
  obtain ⟨W, hW⟩ : ∃ W, W = ((w.alloc (.cells #[.slice aN d.nodes.length cN, .slice aE d.ents.length cE, .slice aO d.old.length cO, .slice aS d.steps.length cS, .int .i64 d.room, .int .i64 d.next] 28)).alloc (.cells #[.slice bN d.nodes.length eN, .slice bE d.ents.length eE, .slice bO d.old.length eO, .slice bS d.steps.length eS, .int .i64 d.room, .int .i64 d.next] 28)) := ⟨_, rfl⟩
  have hW1 : Below w.heap.size w (w.alloc (.cells #[.slice aN d.nodes.length cN, .slice aE d.ents.length cE, .slice aO d.old.length cO, .slice aS d.steps.length cS, .int .i64 d.room, .int .i64 d.next] 28)) := (Below.refl _ _).alloc (Nat.le_refl _) _
  have hWB : Below w.heap.size w W := by rw [hW]; exact hW1.alloc hW1.size _
  have bxa : disk.Box W w.heap.size [.slice aN d.nodes.length cN, .slice aE d.ents.length cE, .slice aO d.old.length cO, .slice aS d.steps.length cS, .int .i64 d.room, .int .i64 d.next] := by
    rw [hW]
    exact (Box.new w #[.slice aN d.nodes.length cN, .slice aE d.ents.length cE, .slice aO d.old.length cO, .slice aS d.steps.length cS, .int .i64 d.room, .int .i64 d.next] _).below ((Below.refl _ _).alloc (Nat.le_refl _) _)
  have bxb : disk.Box W (w.heap.size + 1) [.slice bN d.nodes.length eN, .slice bE d.ents.length eE, .slice bO d.old.length eO, .slice bS d.steps.length eS, .int .i64 d.room, .int .i64 d.next] := by
    rw [hW]
    have := Box.new (w.alloc (.cells #[.slice aN d.nodes.length cN, .slice aE d.ents.length cE, .slice aO d.old.length cO, .slice aS d.steps.length cS, .int .i64 d.room, .int .i64 d.next] 28)) #[.slice bN d.nodes.length eN, .slice bE d.ents.length eE, .slice bO d.old.length eO, .slice bS d.steps.length eS, .int .i64 d.room, .int .i64 d.next] 28
    simpa using this
  have P1 := Lib.hid (p1.below hWB)
  have P2 := Lib.hid (p2.below hWB)
  have P3 := Lib.hid (p3.below hWB)
  have P4 := Lib.hid (p4.below hWB)
  have Q1 := Lib.hid (q1.below hWB)
  have Q2 := Lib.hid (q2.below hWB)
  have Q3 := Lib.hid (q3.below hWB)
  have Q4 := Lib.hid (q4.below hWB)
  have BA := Lib.hid bxa
  have BB := Lib.hid bxb
  have HW := Lib.hid hWB
  have x0 := BA.out.at 0 _ rfl
  have y0 := BB.out.at 0 _ rfl
  rw [hW] at x0 y0
  clear p1 p2 p3 p4 q1 q2 q3 q4 bxa bxb hW1 hWB
  go_enter Tryz.func15, Tryz.ntmps15
  go_wp2_with (fail)
  rw [← hW]
  clear hW x0 y0
  refine (sameNs _ _ _ _ _ _ W (by omega) P1.out Q1.out).mono ?_
  rintro e w1 ⟨rfl, hb⟩
  have H1 := Lib.hid hb
  clear hb
  have x1 := (BA.out.below H1.out).at 1 _ rfl
  have y1 := (BB.out.below H1.out).at 1 _ rfl
  go_wp2_with (fail)
  clear x1 y1
  refine (sameEs _ _ _ _ _ _ w1 (by omega) (P2.out.below H1.out) (Q2.out.below H1.out)).mono ?_
  rintro e w2 ⟨rfl, hb⟩
  have H2 := Lib.hid (H1.out.trans (hb.mono H1.out.size))
  clear hb
  have x2 := (BA.out.below H2.out).at 2 _ rfl
  have y2 := (BB.out.below H2.out).at 2 _ rfl
  go_wp2_with (fail)
  clear x2 y2
  refine (sameEs _ _ _ _ _ _ w2 (by omega) (P3.out.below H2.out) (Q3.out.below H2.out)).mono ?_
  rintro e w3 ⟨rfl, hb⟩
  have H3 := Lib.hid (H2.out.trans (hb.mono H2.out.size))
  clear hb
  have x3 := (BA.out.below H3.out).at 3 _ rfl
  have y3 := (BB.out.below H3.out).at 3 _ rfl
  go_wp2_with (fail)
  clear x3 y3
  refine (same_any _ _ _ _ _ _ w3 (by omega) (P4.out.below H3.out) (Q4.out.below H3.out)).mono ?_
  rintro e w4 ⟨rfl, hb⟩
  have H4 := Lib.hid (H3.out.trans (hb.mono H3.out.size))
  clear hb
  have x4 := (BA.out.below H4.out).at 4 _ rfl
  have y4 := (BB.out.below H4.out).at 4 _ rfl
  have x5 := (BA.out.below H4.out).at 5 _ rfl
  have y5 := (BB.out.below H4.out).at 5 _ rfl
  go_wp2
  go_ret
  exact ⟨rfl, HW.out.trans (H4.out.mono HW.out.size)⟩

end Go.Proofs.YtdacdbidennjhaaGreatDoor.deed

namespace Go.Proofs.YtdacdbidennjhaaGreatDoor.deed
open Go.RowKit
open kit strs recs disk kd

theorem has_entAt {l : List Ent} {s : ByteArray} (h : hasE l s = true) : entAt l s = some (idE l s) := by
  unfold hasE at h
  unfold idE
  cases e : entAt l s with
  | none => rw [e] at h; cases h
  | some i => rfl
/-- a right disk's name: its node is read -/
theorem right_at {d : D} {s : ByteArray} (h : diskOk d = true) (hs : hasE d.ents s = true) : nodeAt d s = some (nodeN d s) ∧ d.nodes[nodeK d s]? = some (nodeN d s) ∧ nodeIx d.nodes (idE d.ents s) = some (nodeK d s) ∧ (nodeN d s).1 = idE d.ents s := by
  obtain ⟨k, nd, h1, h2⟩ := right_node h hs
  obtain ⟨n', h3, h4⟩ := nodeIx_lt _ _ _ h1
  rw [h2] at h3
  cases h3
  rw [nodeN_is h1 h2, nodeK_is h1]
  exact ⟨nodeAt_some hs h1 h2, h2, h1, h4⟩
theorem set_ids {ns : List Nod} {k : Nat} {n m : Nod} (hx : ns[k]? = some n) (hi : m.1 = n.1) : (ns.set k m).map (·.1) = ns.map (·.1) := by
  rw [List.map_set]
  apply List.ext_getElem?
  intro j
  rw [List.getElem?_set]
  split
  · rename_i e
    subst e
    rw [List.getElem?_map, hx]
    split
    · rw [hi]; rfl
    · rename_i e2
      rw [List.length_map] at e2
      exact absurd (List.getElem?_eq_some_iff.1 hx).1 e2
  · rfl
/-- another text in the node of a name is what is read by it -/
theorem set_at {d : D} {s : ByteArray} {m : Nod} (h : diskOk d = true) (hs : hasE d.ents s = true) (hi : m.1 = (nodeN d s).1) : nodeAt (setNode d (nodeK d s) m) s = some m := by
  obtain ⟨_, h2, h3, _⟩ := right_at h hs
  refine nodeAt_some (k := nodeK d s) hs ?_ ?_
  · show nodeIx (d.nodes.set _ m) (idE d.ents s) = _
    rw [nodeIx_ids (set_ids h2 hi)]
    exact h3
  · show (d.nodes.set _ m)[nodeK d s]? = _
    rw [List.getElem?_set_self (List.getElem?_eq_some_iff.1 h2).1]
theorem used_set {d : D} {s : ByteArray} {m : Nod} (h : diskOk d = true) (hs : hasE d.ents s = true) : usedOn (setNode d (nodeK d s) m) + (nodeN d s).2.1.size = usedOn d + m.2.1.size := by
  obtain ⟨_, h2, _, _⟩ := right_at h hs
  have ht := tot_set (d.nodes.map (·.2.1)) (nodeK d s) (nodeN d s).2.1 m.2.1 (by rw [List.getElem?_map, h2]; rfl)
  unfold usedOn
  show tot ((d.nodes.set (nodeK d s) m).map (·.2.1)) + _ = _
  rw [List.map_set]
  exact ht
theorem ids_upto {next : Int} : ∀ {l : List Nod} {p : Int}, ik.idsFrom next p l = true → ∀ n ∈ l, n.1 < next ∧ 0 ≤ n.2.2 ∧ n.2.2 ≤ (n.2.1.size : Int)
  | [], _, _, n, hn => by cases hn
  | x :: r, p, h, n, hn => by
    unfold ik.idsFrom at h
    rw [Bool.and_eq_true, decide_eq_true_eq] at h
    rcases List.mem_cons.1 hn with rfl | hn
    · exact ⟨h.1.2.1, h.1.2.2⟩
    · exact ids_upto h.2 n hn
theorem right_nod {d : D} (h : diskOk d = true) : ∀ n ∈ d.nodes, n.1 < d.next ∧ 0 ≤ n.2.2 ∧ n.2.2 ≤ (n.2.1.size : Int) := by
  have b := (right_parts h).2.1
  rw [ik.ids_none] at b
  exact ids_upto b
/-- behind what is laid: right, the same names, the old text ahead, all of it or the disk is full -/
theorem append_facts {d : D} {s t : ByteArray} (h : diskOk d = true) (hs : hasE d.ents s = true) :
    ∃ (x : D) (n : Int) (u : ByteArray), appendFile d s t = (x, n) ∧ diskOk x = true ∧ hasE x.ents s = true ∧ textR (nodeAt x s) = (nodeN d s).2.1 ++ u ∧ ((n = 0 ∧ u = t) ∨ (n = 5 ∧ (usedOn x : Int) = x.room)) := by
  obtain ⟨_, h2, _, _⟩ := right_at h hs
  have hm := right_nod h _ (List.mem_of_getElem? h2)
  have hr := right_room h
  unfold appendFile
  rw [if_neg (by rw [h, hs]; simp)]
  by_cases hf : d.room - (usedOn d : Int) < (t.size : Int)
  · rw [if_pos hf]
    have hsz : (t.extract 0 (d.room - (usedOn d : Int)).toNat).size = (d.room - (usedOn d : Int)).toNat := by rw [ByteArray.size_extract]; omega
    refine ⟨_, _, t.extract 0 (d.room - (usedOn d : Int)).toNat, rfl, ?_, hs, ?_, .inr ⟨rfl, ?_⟩⟩
    · refine right_set h h2 rfl ⟨hm.2.1, ?_⟩ ?_
      · show (nodeN d s).2.2 ≤ (((nodeN d s).2.1 ++ _).size : Int)
        rw [ByteArray.size_append]
        omega
      · show (usedOn d : Int) + (((nodeN d s).2.1 ++ _).size : Int) ≤ _
        rw [ByteArray.size_append, hsz]
        omega
    · exact congrArg textR (set_at h hs (by rfl))
    · have hu := used_set (m := ((nodeN d s).1, (nodeN d s).2.1 ++ t.extract 0 (d.room - (usedOn d : Int)).toNat, (nodeN d s).2.2)) h hs
      have e : ((nodeN d s).2.1 ++ t.extract 0 (d.room - (usedOn d : Int)).toNat).size = (nodeN d s).2.1.size + (d.room - (usedOn d : Int)).toNat := by rw [ByteArray.size_append, hsz]
      show _ = d.room
      simp only [e] at hu
      omega
  · rw [if_neg hf]
    refine ⟨_, _, t, rfl, ?_, hs, ?_, .inl ⟨rfl, rfl⟩⟩
    · refine right_set h h2 rfl ⟨hm.2.1, ?_⟩ ?_
      · show (nodeN d s).2.2 ≤ (((nodeN d s).2.1 ++ t).size : Int)
        rw [ByteArray.size_append]
        omega
      · show (usedOn d : Int) + (((nodeN d s).2.1 ++ t).size : Int) ≤ _
        rw [ByteArray.size_append]
        omega
    · exact congrArg textR (set_at h hs (by rfl))
theorem sync_facts {d : D} {s : ByteArray} (h : diskOk d = true) (hs : hasE d.ents s = true) : ∃ x, syncFile d s = (x, 0) ∧ diskOk x = true ∧ hasE x.ents s = true := by
  obtain ⟨_, h2, _, _⟩ := right_at h hs
  unfold syncFile
  rw [if_neg (by rw [h, hs]; simp)]
  exact ⟨_, rfl, right_set h h2 rfl ⟨(show (0 : Int) ≤ ((nodeN d s).2.1.size : Int) by omega), Int.le_refl _⟩ (show (usedOn d : Int) + ((nodeN d s).2.1.size : Int) ≤ _ by have := right_room h; omega), hs⟩
theorem remove_facts {d : D} {s : ByteArray} (h : diskOk d = true) (hs : hasE d.ents s = true) : ∃ x, removeFile d s = (x, 0) ∧ diskOk x = true ∧ hasE x.ents s = false := by
  unfold removeFile
  rw [if_neg (by rw [h, hs]; simp)]
  obtain ⟨h1, h2, h3⟩ := right_remove h hs
  refine ⟨_, rfl, clean_right h1 h2 h3, ?_⟩
  show hasE (dropE d.ents s) s = false
  unfold hasE
  rw [ik.drop_at, if_pos rfl]
  rfl
theorem create_there {d : D} {s : ByteArray} (h : diskOk d = true) (hn : nam.nok s = true) (hs : hasE d.ents s = true) : createFile d s = (d, 2) := by
  unfold createFile
  rw [if_neg (by rw [h]; simp), if_neg (by rw [hn]; simp), if_pos hs]
theorem create_facts {d : D} {s : ByteArray} (h : diskOk d = true) (hs : hasE d.ents s = false) (hn : nam.nok s = true) :
    ∃ x n, createFile d s = (x, n) ∧ diskOk x = true ∧ ((n = 0 ∧ (nodeAt x s).isSome = true ∧ textR (nodeAt x s) = { data := #[] } ∧ (createFile x s).2 = 2) ∨ n = 4) := by
  unfold createFile
  rw [if_neg (by rw [h]; simp), if_neg (by rw [hn]; simp), if_neg (by rw [hs]; simp)]
  by_cases hm : 16 ≤ d.ents.length ∨ 64 ≤ d.nodes.length ∨ 1000000000 ≤ d.next
  · rw [if_pos hm]
    exact ⟨d, 4, rfl, h, .inr rfl⟩
  · rw [if_neg hm]
    obtain ⟨h1, h2, h3⟩ := right_create h hn (by omega) (by omega) (by omega)
    have hc : diskOk (clean (createMid d s)) = true := clean_right h1 h2 h3
    have hat : entAt (clean (createMid d s)).ents s = some d.next := by
      show entAt (putE d.ents (s, d.next)) s = _
      rw [ik.putE_ins _ (right_srt h).1, ik.ins_at, if_pos rfl]
    have hhas : hasE (clean (createMid d s)).ents s = true := by unfold hasE; rw [hat]; rfl
    have hid : idE (clean (createMid d s)).ents s = d.next := by unfold idE; rw [hat]; rfl
    obtain ⟨r1, r2, _, r4⟩ := right_at hc hhas
    rw [hid] at r4
    have hmem : nodeN (clean (createMid d s)) s ∈ d.nodes ++ [((d.next, { data := #[] }, 0) : Nod)] := (List.mem_filter.1 (List.mem_of_getElem? r2)).1
    have hnew : nodeN (clean (createMid d s)) s = (d.next, { data := #[] }, 0) := by
      rcases List.mem_append.1 hmem with hx | hx
      · have := (right_nod h _ hx).1
        omega
      · exact List.mem_singleton.1 hx
    refine ⟨_, _, rfl, hc, .inl ⟨rfl, ?_, ?_, ?_⟩⟩
    · show (nodeAt (clean (createMid d s)) s).isSome = true
      rw [r1]; rfl
    · show textR (nodeAt (clean (createMid d s)) s) = _
      rw [r1, hnew]; rfl
    · exact congrArg Prod.snd (create_there hc hn hhas)

end Go.Proofs.YtdacdbidennjhaaGreatDoor.deed

namespace Go.Proofs.YtdacdbidennjhaaGreatDoor.num
open Go.RowKit
open kit draw

set_option maxHeartbeats 400000 in
theorem long_any (n : Nat) (x : Int) (w : World) (hn : n ≤ 5000) :
    Calls Tryz.prog 58 #[.int .i64 n, .int .u8 x] w fun e w' => (∃ s : ByteArray, s.size = n ∧ e = .returned (.string s)) ∧ Below w.heap.size w w' := by
  obtain ⟨i0, hi, hz0, hz1, hz2⟩ := info_parts Tryz.infoU8
  go_enter Tryz.func58, Tryz.ntmps58
  go_wp2_with (refine wpList_make_full _ (by rfl) _ _ 22 (by rfl) w.heap.size 5 i0 (.int .u8 0) 1 Tryz.underlying22 hi hz0 hz1 .i64 .i64 _ _ n (by rfl) (by rfl) ?_ ?_ ?_ ?_ ?_ ?_; omega; omega; (rw [hz2]; omega); (unfold maxLen; omega); exact Nat.le_refl _; intro w1 hown1 hg1)
  have hb1 : Below w.heap.size w w1 := (Below.refl _ _).grown hg1 (Nat.le_refl _) (fun k hk => by cases hk)
  have hown2 : w1.ownsRow w.heap.size 5 1 (.slice (some ⟨w.heap.size, 0, none⟩) n n) n ((List.replicate n (0 : Int)).map (Value.int .u8)) := by
    rw [show (Value.int IntKind.u8 0).cells = #[.int .u8 0] from rfl, toList_madeCells_one] at hown1
    simpa using hown1
  clear hown1
  go_loopw [6] (fun i wr => ∃ (k : Nat) (ys : List Int), k ≤ n ∧ i = .int .i64 k ∧ ys.length = n ∧ wr.ownsRow w.heap.size 5 1 (.slice (some ⟨w.heap.size, 0, none⟩) n n) n (ys.map (Value.int .u8)) ∧ Below w.heap.size w wr) (fun i _ => n - (intOf i).toNat)
  case atStart => exact ⟨0, _, Nat.zero_le _, rfl, by simp, hown2, hb1⟩
  case round =>
    obtain ⟨k, ys, hk, rfl, hy, hown, hb⟩ := hrel
    have HY := Lib.hid hy
    clear hown2
    by_cases hlt : k < n
    · obtain ⟨u, hcell⟩ : ∃ u, wr.cell? ⟨w.heap.size, k, none⟩ = some u := by
        rw [hown.cellAt k (by omega)]
        exact ⟨_, List.getElem?_eq_getElem (by rw [List.length_map, hy]; exact hlt)⟩
      have hfrz := hown.frozenAt k
      clear hy
      go_wp2
      have hst := hown.stored k (.int .u8 x)
      go_roundw
      case rel =>
        refine ⟨k + 1, ys.set k x, by omega, by go_num, by rw [List.length_set]; exact HY.out, ?_, hb.setCell (Nat.le_refl _) _⟩
        rw [← List.map_set] at hst
        exact hst.1
      case measure => simp [intOf]; omega
    · obtain rfl : k = n := by omega
      have hcv := conv_own Tryz.underlying22 Tryz.underlying5 hown
      clear hy
      go_wp2
      go_ret
      exact ⟨⟨_, by rw [strOfNums_size]; exact HY.out, rfl⟩, hb⟩

end Go.Proofs.YtdacdbidennjhaaGreatDoor.num
namespace Go.Proofs.YtdacdbidennjhaaGreatDoor.deed
open Go.RowKit
open kit strs recs disk kd draw num

theorem wrap_small {q : Nat} (h : q ≤ 300) : IntKind.i64.wrap (q : Int) = (q : Int) := by
  unfold IntKind.wrap
  simp [IntKind.bits, IntKind.signed]
  omega
def PostDST (w : World) (e : Ending) (w' : World) : Prop := ∃ u d s t, e = .returned (.tuple #[u, .string s, .string t]) ∧ s.size ≤ 20 ∧ t.size ≤ 300 ∧ OwnDisk w.heap.size w' u d ∧ Sm 6800 d ∧ Below w.heap.size w w'

set_option maxHeartbeats 4000000 in
set_option maxRecDepth 100000 in
theorem append_any (a : Option Addr) (len cap : Nat) (w : World) (hc : CodeAt w w.heap.size a len) :
    Calls Tryz.prog 11 #[.slice a len cap] w (PostDST w) := by
  obtain ⟨W, hW⟩ : ∃ W, W = w.alloc (.cells #[.slice none 0 0, .slice none 0 0, .slice none 0 0, .slice none 0 0, .int .i64 0, .int .i64 0] 28) := ⟨_, rfl⟩
  have hWB : Below w.heap.size w W := by rw [hW]; exact (Below.refl _ _).alloc (Nat.le_refl _) _
  have hsz : w.heap.size + 1 = W.heap.size := by rw [hW]; simp
  have br := show disk.Box W w.heap.size [.slice none 0 0, .slice none 0 0, .slice none 0 0, .slice none 0 0, .int .i64 0, .int .i64 0] from by rw [hW]; exact Box.new w #[.slice none 0 0, .slice none 0 0, .slice none 0 0, .slice none 0 0, .int .i64 0, .int .i64 0] _
  have fr : ∀ j, W.frozen? ⟨w.heap.size, j, none⟩ = false := fun j => by rw [hW]; simp
  have cW := hc.below hWB
  have BR := Lib.hid br
  have FR := Lib.hid fr
  have HW := Lib.hid hWB
  clear br fr hWB hc
  go_enter Tryz.func11, Tryz.ntmps11
  go_wp2_with (fail)
  rw [← hW]
  clear hW
  refine (new_any w.heap.size a len cap W (by omega) cW).mono ?_
  rintro e w1 ⟨rfl, u1, b1, s1⟩
  have code1 := cW.below (b1.mono (by omega))
  go_wp2_with (fail)
  refine (any_any w.heap.size W.heap.size a len cap w1 (by omega) (by omega) code1 u1).mono ?_
  rintro e w2 ⟨u, d, rfl, hd, sm, u2, g2⟩
  obtain ⟨aN, aE, aO, aS, cN, cE, cO, cS, rfl⟩ := own_slices hd
  have b2 : Below W.heap.size W w2 := b1.grown g2 (by omega) (fun k hk => by injection hk with hk; omega)
  have code2 := code1.grown (by omega) (by omega) g2
  have s2 := g2.size
  obtain ⟨V, hV⟩ : ∃ V, V = w2.alloc (.cells #[.slice aN d.nodes.length cN, .slice aE d.ents.length cE, .slice aO d.old.length cO, .slice aS d.steps.length cS, .int .i64 d.room, .int .i64 d.next] 28) := ⟨_, rfl⟩
  have bV : Below w2.heap.size w2 V := by rw [hV]; exact (Below.refl _ _).alloc (Nat.le_refl _) _
  have sV : V.heap.size = w2.heap.size + 1 := by rw [hV]; simp
  have bxV := show disk.Box V w2.heap.size [.slice aN d.nodes.length cN, .slice aE d.ents.length cE, .slice aO d.old.length cO, .slice aS d.steps.length cS, .int .i64 d.room, .int .i64 d.next] from by rw [hV]; exact Box.new w2 #[.slice aN d.nodes.length cN, .slice aE d.ents.length cE, .slice aO d.old.length cO, .slice aS d.steps.length cS, .int .i64 d.room, .int .i64 d.next] _
  have brV := (BR.out.below b2).below bV
  have frV := frozen_below (frozen_below FR.out BR.out.1 b2) (BR.out.below b2).1 bV
  have hdV := disk_below hd bV
  have cV := code2.below (bV.mono (by omega))
  have uV := u2.below (bV.mono (by omega))
  have BX := Lib.hid bxV
  have BR2 := Lib.hid brV
  have FR2 := Lib.hid frV
  have HD := Lib.hid hdV
  have CV := Lib.hid cV
  have UV := Lib.hid uV
  have SM := Lib.hid sm
  have HB := Lib.hid (HW.out.trans ((b2.trans (bV.mono (by omega))).mono (by omega)))
  clear hd u1 b1 u2 g2 b2 bV bxV brV frV hdV cV uV code1 code2 cW sm BR FR HW
  have BX0 := BX
  have BR0 := BR2
  have FR0 := FR2
  have HD0 := HD
  have HB0 := HB
  have C0 := CV
  have SZ0 := Lib.hid (show w.heap.size ≤ V.heap.size by have := HB.out.size; omega)
  have CZ := Lib.hid (show W.heap.size < V.heap.size by omega)
  go_wp2_with (fail)
  rw [← hV]
  clear hV
  refine (name5_any w.heap.size W.heap.size a len cap V (by omega) CZ.out C0.out UV.out).mono ?_
  rintro e w3 ⟨s, hs, rfl, u3, g3⟩
  have CZ3 := Lib.hid (Nat.lt_of_lt_of_le CZ.out g3.size)
  have BX3 := Lib.hid (box_keep BX0.out g3 (by omega))
  have BR3 := Lib.hid (box_keep BR0.out g3 (by omega))
  have FR3 := Lib.hid (frozen_keep FR0.out BR0.out.1 g3 (by omega))
  have HD3 := Lib.hid (disk_keep HD0.out g3 (by omega))
  have HB3 := Lib.hid (HB0.out.grown g3 SZ0.out (fun k hk => by injection hk with hk; omega))
  have C3 := Lib.hid (C0.out.grown (by omega) SZ0.out g3)
  have SZ3 := Lib.hid (Nat.le_trans SZ0.out g3.size)
  have HS := Lib.hid hs
  clear g3 hs BX BR2 FR2 HD HB CV UV
  go_wp2_with (fail)
  refine (once_any w.heap.size W.heap.size a len cap 6 w3 (by omega) SZ3.out C3.out u3 (by decide) (by decide)).mono ?_
  rintro e w4 ⟨⟨f, rfl⟩, u4, g4⟩
  have CZ4 := Lib.hid (Nat.lt_of_lt_of_le CZ3.out g4.size)
  have BX4 := Lib.hid (box_keep BX3.out g4 (by omega))
  have BR4 := Lib.hid (box_keep BR3.out g4 (by omega))
  have FR4 := Lib.hid (frozen_keep FR3.out BR3.out.1 g4 (by omega))
  have HD4 := Lib.hid (disk_keep HD3.out g4 (by omega))
  have HB4 := Lib.hid (HB3.out.grown g4 SZ3.out (fun k hk => by injection hk with hk; omega))
  have C4 := Lib.hid (C3.out.grown (by omega) SZ3.out g4)
  have SZ4 := Lib.hid (Nat.le_trans SZ3.out g4.size)
  have U4 := Lib.hid u4
  clear g4 u4 u3
  have y4_0 := BX4.out.at 0 _ rfl
  have y4_1 := BX4.out.at 1 _ rfl
  have y4_2 := BX4.out.at 2 _ rfl
  have y4_3 := BX4.out.at 3 _ rfl
  have y4_4 := BX4.out.at 4 _ rfl
  have y4_5 := BX4.out.at 5 _ rfl
  have q4_0 := BR4.out.at 0 _ rfl
  have q4_1 := BR4.out.at 1 _ rfl
  have q4_2 := BR4.out.at 2 _ rfl
  have q4_3 := BR4.out.at 3 _ rfl
  have q4_4 := BR4.out.at 4 _ rfl
  have q4_5 := BR4.out.at 5 _ rfl
  cases f
  · go_wp2
    have BXd := Lib.hid (BX4.out.below (Below.refl _ w4).drew)
    have BRd := Lib.hid (BR4.out.below (Below.refl _ w4).drew)
    have FRd := Lib.hid (frozen_below FR4.out BR4.out.1 (Below.refl _ w4).drew)
    have HDd := Lib.hid (disk_below HD4.out (Below.refl _ w4).drew)
    have HBd := Lib.hid HB4.out.drew
    have Cd := Lib.hid (C4.out.below (Below.refl _ w4).drew)
    have Ud := Lib.hid (U4.out.below (Below.refl _ w4).drew)
    have SZd := Lib.hid (show w.heap.size ≤ w4.drew.heap.size from SZ4.out)
    have CZd := Lib.hid (show W.heap.size < w4.drew.heap.size from CZ4.out)
    have yd_0 := BXd.out.at 0 _ rfl
    have yd_1 := BXd.out.at 1 _ rfl
    have yd_2 := BXd.out.at 2 _ rfl
    have yd_3 := BXd.out.at 3 _ rfl
    have yd_4 := BXd.out.at 4 _ rfl
    have yd_5 := BXd.out.at 5 _ rfl
    have qd_0 := BRd.out.at 0 _ rfl
    have qd_1 := BRd.out.at 1 _ rfl
    have qd_2 := BRd.out.at 2 _ rfl
    have qd_3 := BRd.out.at 3 _ rfl
    have qd_4 := BRd.out.at 4 _ rfl
    have qd_5 := BRd.out.at 5 _ rfl
    have fd := FRd.out
    go_region_held3 (fun w' => w'.cell? ⟨w2.heap.size, 0, none⟩ = some (.slice aN d.nodes.length cN) ∧ w'.cell? ⟨w2.heap.size, 1, none⟩ = some (.slice aE d.ents.length cE) ∧ w'.cell? ⟨w2.heap.size, 2, none⟩ = some (.slice aO d.old.length cO) ∧ w'.cell? ⟨w2.heap.size, 3, none⟩ = some (.slice aS d.steps.length cS) ∧ w'.cell? ⟨w2.heap.size, 4, none⟩ = some (.int .i64 d.room) ∧ w'.cell? ⟨w2.heap.size, 5, none⟩ = some (.int .i64 d.next)) (first | with_reducible exact ⟨y4_0, y4_1, y4_2, y4_3, y4_4, y4_5⟩ | with_reducible exact ⟨yd_0, yd_1, yd_2, yd_3, yd_4, yd_5⟩ | with_reducible exact ⟨y5_0, y5_1, y5_2, y5_3, y5_4, y5_5⟩ | with_reducible exact ⟨y6_0, y6_1, y6_2, y6_3, y6_4, y6_5⟩ | exact ⟨by simp [go_sem, y6_0], by simp [go_sem, y6_1], by simp [go_sem, y6_2], by simp [go_sem, y6_3], by simp [go_sem, y6_4], by simp [go_sem, y6_5]⟩) (first | (go_at_call 59; refine (below_any w.heap.size W.heap.size a len cap 20 w4.drew (by omega) SZd.out Cd.out Ud.out (by decide) (by decide)).mono ?_; rintro e w5 ⟨⟨x, x0, x1, rfl⟩, u5, g5⟩; obtain ⟨n, rfl⟩ : ∃ n : Nat, x = n := ⟨x.toNat, by omega⟩; have N5 := Lib.hid x1; have U5 := Lib.hid u5; have BX5 := Lib.hid (box_keep BXd.out g5 (by omega)); have BR5 := Lib.hid (box_keep BRd.out g5 (by omega)); have FR5 := Lib.hid (frozen_keep FRd.out BRd.out.1 g5 (by omega)); have HD5 := Lib.hid (disk_keep HDd.out g5 (by omega)); have HB5 := Lib.hid (HBd.out.grown g5 SZd.out (fun k hk => (by injection hk with hk; omega))); have C5 := Lib.hid (Cd.out.grown (by omega) SZd.out g5); have SZ5 := Lib.hid (Nat.le_trans SZd.out g5.size); have CZ5 := Lib.hid (Nat.lt_of_lt_of_le CZd.out g5.size); have y5_0 := BX5.out.at 0 _ rfl; have y5_1 := BX5.out.at 1 _ rfl; have y5_2 := BX5.out.at 2 _ rfl; have y5_3 := BX5.out.at 3 _ rfl; have y5_4 := BX5.out.at 4 _ rfl; have y5_5 := BX5.out.at 5 _ rfl; have q5_0 := BR5.out.at 0 _ rfl; have q5_1 := BR5.out.at 1 _ rfl; have q5_2 := BR5.out.at 2 _ rfl; have q5_3 := BR5.out.at 3 _ rfl; have q5_4 := BR5.out.at 4 _ rfl; have q5_5 := BR5.out.at 5 _ rfl; have f5 := FR5.out; clear u5 g5) | (go_at_call 60; refine (text_any w.heap.size W.heap.size a len cap n w5 (by omega) CZ5.out C5.out U5.out (by have := N5.out; omega)).mono ?_; rintro e w6 ⟨⟨t, ht, rfl⟩, u6, g6⟩; have BX6 := Lib.hid (box_keep BX5.out g6 (by omega)); have BR6 := Lib.hid (box_keep BR5.out g6 (by omega)); have FR6 := Lib.hid (frozen_keep FR5.out BR5.out.1 g6 (by omega)); have HD6 := Lib.hid (disk_keep HD5.out g6 (by omega)); have HB6 := Lib.hid (HB5.out.grown g6 SZ5.out (fun k hk => (by injection hk with hk; omega))); have C6 := Lib.hid (C5.out.grown (by omega) SZ5.out g6); have SZ6 := Lib.hid (Nat.le_trans SZ5.out g6.size); have CZ6 := Lib.hid (Nat.lt_of_lt_of_le CZ5.out g6.size); have y6_0 := BX6.out.at 0 _ rfl; have y6_1 := BX6.out.at 1 _ rfl; have y6_2 := BX6.out.at 2 _ rfl; have y6_3 := BX6.out.at 3 _ rfl; have y6_4 := BX6.out.at 4 _ rfl; have y6_5 := BX6.out.at 5 _ rfl; have q6_0 := BR6.out.at 0 _ rfl; have q6_1 := BR6.out.at 1 _ rfl; have q6_2 := BR6.out.at 2 _ rfl; have q6_3 := BR6.out.at 3 _ rfl; have q6_4 := BR6.out.at 4 _ rfl; have q6_5 := BR6.out.at 5 _ rfl; have f6 := FR6.out; have HT := Lib.hid (show t.size ≤ 300 by have := N5.out; omega); clear u6 g6 ht))
    all_goals
      obtain ⟨Z, hZ, hbz, hdz, hlz⟩ := six_ret BR6.out (show w.heap.size < w1.heap.size by omega) HD6.out w.heap.size w HB6.out (Nat.le_refl _)
      have z0 := hbz.at 0 _ rfl
      have z1 := hbz.at 1 _ rfl
      have z2 := hbz.at 2 _ rfl
      have z3 := hbz.at 3 _ rfl
      have z4 := hbz.at 4 _ rfl
      have z5 := hbz.at 5 _ rfl
      rw [hZ]
      clear hZ hbz yd_0 qd_0 yd_1 qd_1 yd_2 qd_2 yd_3 qd_3 yd_4 qd_4 yd_5 qd_5 y5_0 q5_0 y5_1 q5_1 y5_2 q5_2 y5_3 q5_3 y5_4 q5_4 y5_5 q5_5 y6_0 q6_0 y6_1 q6_1 y6_2 q6_2 y6_3 q6_3 y6_4 q6_4 y6_5 q6_5 y4_0 y4_1 y4_2 y4_3 y4_4 y4_5 q4_0 q4_1 q4_2 q4_3 q4_4 q4_5
      go_wp2
      refine bodyPost_ret (v := .tuple #[.agg #[.slice aN d.nodes.length cN, .slice aE d.ents.length cE, .slice aO d.old.length cO, .slice aS d.steps.length cS, .int .i64 d.room, .int .i64 d.next], .string s, .string t]) (by simp [results, Tryz.results11, go_sem, z0, z1, z2, z3, z4, z5]) rfl ⟨_, _, s, t, rfl, HS.out, HT.out, hdz.base (by omega), SM.out, hlz⟩
  · go_wp2
    have BXd := Lib.hid (BX4.out.below (Below.refl _ w4).drew)
    have BRd := Lib.hid (BR4.out.below (Below.refl _ w4).drew)
    have FRd := Lib.hid (frozen_below FR4.out BR4.out.1 (Below.refl _ w4).drew)
    have HDd := Lib.hid (disk_below HD4.out (Below.refl _ w4).drew)
    have HBd := Lib.hid HB4.out.drew
    have Cd := Lib.hid (C4.out.below (Below.refl _ w4).drew)
    have Ud := Lib.hid (U4.out.below (Below.refl _ w4).drew)
    have SZd := Lib.hid (show w.heap.size ≤ w4.drew.heap.size from SZ4.out)
    have CZd := Lib.hid (show W.heap.size < w4.drew.heap.size from CZ4.out)
    have yd_0 := BXd.out.at 0 _ rfl
    have yd_1 := BXd.out.at 1 _ rfl
    have yd_2 := BXd.out.at 2 _ rfl
    have yd_3 := BXd.out.at 3 _ rfl
    have yd_4 := BXd.out.at 4 _ rfl
    have yd_5 := BXd.out.at 5 _ rfl
    have qd_0 := BRd.out.at 0 _ rfl
    have qd_1 := BRd.out.at 1 _ rfl
    have qd_2 := BRd.out.at 2 _ rfl
    have qd_3 := BRd.out.at 3 _ rfl
    have qd_4 := BRd.out.at 4 _ rfl
    have qd_5 := BRd.out.at 5 _ rfl
    have fd := FRd.out
    go_region_held3 (fun w' => w'.cell? ⟨w2.heap.size, 0, none⟩ = some (.slice aN d.nodes.length cN) ∧ w'.cell? ⟨w2.heap.size, 1, none⟩ = some (.slice aE d.ents.length cE) ∧ w'.cell? ⟨w2.heap.size, 2, none⟩ = some (.slice aO d.old.length cO) ∧ w'.cell? ⟨w2.heap.size, 3, none⟩ = some (.slice aS d.steps.length cS) ∧ w'.cell? ⟨w2.heap.size, 4, none⟩ = some (.int .i64 d.room) ∧ w'.cell? ⟨w2.heap.size, 5, none⟩ = some (.int .i64 d.next)) (first | with_reducible exact ⟨y4_0, y4_1, y4_2, y4_3, y4_4, y4_5⟩ | with_reducible exact ⟨yd_0, yd_1, yd_2, yd_3, yd_4, yd_5⟩ | with_reducible exact ⟨y5_0, y5_1, y5_2, y5_3, y5_4, y5_5⟩ | with_reducible exact ⟨y6_0, y6_1, y6_2, y6_3, y6_4, y6_5⟩ | exact ⟨by simp [go_sem, y6_0], by simp [go_sem, y6_1], by simp [go_sem, y6_2], by simp [go_sem, y6_3], by simp [go_sem, y6_4], by simp [go_sem, y6_5]⟩) (first | (go_at_call 59; refine (below_any w.heap.size W.heap.size a len cap 200 w4.drew (by omega) SZd.out Cd.out Ud.out (by decide) (by decide)).mono ?_; rintro e w5 ⟨⟨x, x0, x1, rfl⟩, u5, g5⟩; obtain ⟨n, rfl⟩ : ∃ n : Nat, x = n := ⟨x.toNat, by omega⟩; have N5 := Lib.hid x1; obtain ⟨q, hq1, hq2, hq3, hq4⟩ : ∃ q : Nat, (101 : Int) + (n : Int) = (q : Int) ∧ q ≤ 300 ∧ (0 : Int) ≤ (q : Int) ∧ (q : Int) ≤ 9223372036854775807 := ⟨101 + n, by omega, by omega, by omega, by omega⟩; have r0 : (0 : Int) ≤ 101 + (n : Int) := (by omega); have r1 : 101 + (n : Int) ≤ 9223372036854775807 := (by omega); have HQ1 := Lib.hid hq1; clear hq1; have U5 := Lib.hid u5; have BX5 := Lib.hid (box_keep BXd.out g5 (by omega)); have BR5 := Lib.hid (box_keep BRd.out g5 (by omega)); have FR5 := Lib.hid (frozen_keep FRd.out BRd.out.1 g5 (by omega)); have HD5 := Lib.hid (disk_keep HDd.out g5 (by omega)); have HB5 := Lib.hid (HBd.out.grown g5 SZd.out (fun k hk => (by injection hk with hk; omega))); have C5 := Lib.hid (Cd.out.grown (by omega) SZd.out g5); have SZ5 := Lib.hid (Nat.le_trans SZd.out g5.size); have CZ5 := Lib.hid (Nat.lt_of_lt_of_le CZd.out g5.size); have y5_0 := BX5.out.at 0 _ rfl; have y5_1 := BX5.out.at 1 _ rfl; have y5_2 := BX5.out.at 2 _ rfl; have y5_3 := BX5.out.at 3 _ rfl; have y5_4 := BX5.out.at 4 _ rfl; have y5_5 := BX5.out.at 5 _ rfl; have q5_0 := BR5.out.at 0 _ rfl; have q5_1 := BR5.out.at 1 _ rfl; have q5_2 := BR5.out.at 2 _ rfl; have q5_3 := BR5.out.at 3 _ rfl; have q5_4 := BR5.out.at 4 _ rfl; have q5_5 := BR5.out.at 5 _ rfl; have f5 := FR5.out; clear u5 g5) | (go_at_call 58; rw [HQ1.out, wrap_small hq2]; refine (long_any q 7 w5 (by omega)).mono ?_; rintro e w6 ⟨⟨t, ht, rfl⟩, b6⟩; have BX6 := Lib.hid (BX5.out.below b6); have BR6 := Lib.hid (BR5.out.below b6); have FR6 := Lib.hid (frozen_below FR5.out BR5.out.1 b6); have HD6 := Lib.hid (disk_below HD5.out b6); have HB6 := Lib.hid (HB5.out.trans (b6.mono SZ5.out)); have y6_0 := BX6.out.at 0 _ rfl; have y6_1 := BX6.out.at 1 _ rfl; have y6_2 := BX6.out.at 2 _ rfl; have y6_3 := BX6.out.at 3 _ rfl; have y6_4 := BX6.out.at 4 _ rfl; have y6_5 := BX6.out.at 5 _ rfl; have q6_0 := BR6.out.at 0 _ rfl; have q6_1 := BR6.out.at 1 _ rfl; have q6_2 := BR6.out.at 2 _ rfl; have q6_3 := BR6.out.at 3 _ rfl; have q6_4 := BR6.out.at 4 _ rfl; have q6_5 := BR6.out.at 5 _ rfl; have f6 := FR6.out; have HT := Lib.hid (show t.size ≤ 300 by omega); clear b6 ht))
    all_goals
      obtain ⟨Z, hZ, hbz, hdz, hlz⟩ := six_ret BR6.out (show w.heap.size < w1.heap.size by omega) HD6.out w.heap.size w HB6.out (Nat.le_refl _)
      have z0 := hbz.at 0 _ rfl
      have z1 := hbz.at 1 _ rfl
      have z2 := hbz.at 2 _ rfl
      have z3 := hbz.at 3 _ rfl
      have z4 := hbz.at 4 _ rfl
      have z5 := hbz.at 5 _ rfl
      rw [hZ]
      clear hZ hbz yd_0 qd_0 yd_1 qd_1 yd_2 qd_2 yd_3 qd_3 yd_4 qd_4 yd_5 qd_5 y5_0 q5_0 y5_1 q5_1 y5_2 q5_2 y5_3 q5_3 y5_4 q5_4 y5_5 q5_5 y6_0 q6_0 y6_1 q6_1 y6_2 q6_2 y6_3 q6_3 y6_4 q6_4 y6_5 q6_5 y4_0 y4_1 y4_2 y4_3 y4_4 y4_5 q4_0 q4_1 q4_2 q4_3 q4_4 q4_5
      go_wp2
      refine bodyPost_ret (v := .tuple #[.agg #[.slice aN d.nodes.length cN, .slice aE d.ents.length cE, .slice aO d.old.length cO, .slice aS d.steps.length cS, .int .i64 d.room, .int .i64 d.next], .string s, .string t]) (by simp [results, Tryz.results11, go_sem, z0, z1, z2, z3, z4, z5]) rfl ⟨_, _, s, t, rfl, HS.out, HT.out, hdz.base (by omega), SM.out, hlz⟩

end Go.Proofs.YtdacdbidennjhaaGreatDoor.deed

namespace Go.Proofs.YtdacdbidennjhaaGreatDoor.deed
open Go.RowKit
open kit strs recs disk kd draw num

/-- a box that holds a disk -/
structure Held (w : World) (g : Nat) (c0 c1 c2 c3 : Value) (d : D) : Prop where
  box : disk.Box w g [c0, c1, c2, c3, .int .i64 d.room, .int .i64 d.next]
  is : IsDisk w (.agg #[c0, c1, c2, c3, .int .i64 d.room, .int .i64 d.next]) d
theorem Held.below {w w' : World} {g : Nat} {c0 c1 c2 c3 : Value} {d : D} (h : Held w g c0 c1 c2 c3 d) (hb : Below w.heap.size w w') : Held w' g c0 c1 c2 c3 d := ⟨h.box.below hb, h.is.below hb⟩
theorem sm_lens {K : Nat} {d : D} (h : Sm K d) (hK : K ≤ 200000) : d.nodes.length ≤ 1048576 ∧ d.ents.length ≤ 1048576 ∧ d.old.length ≤ 1048576 ∧ d.steps.length ≤ 1048576 := by
  have hk := (h.ok hK).2
  unfold bulk bulkN bulkE at hk
  simp only [List.length_map] at hk
  omega
theorem at_has {d : D} {s : ByteArray} (h : (nodeAt d s).isSome = true) : hasE d.ents s = true := by
  unfold hasE
  cases e : entAt d.ents s with
  | none => rw [nodeAt_none e] at h; cases h
  | some i => rfl
theorem no_at {d : D} {s : ByteArray} (h : hasE d.ents s = false) : nodeAt d s = none := by
  refine nodeAt_none ?_
  unfold hasE at h
  cases e : entAt d.ents s with
  | none => rfl
  | some i => rw [e] at h; cases h
theorem app_ahead (a b : ByteArray) : ((a ++ b).extract 0 a.size).toList == a.toList := by
  have h : (a ++ b).extract 0 a.size = a := by
    apply ByteArray.ext
    rw [ByteArray.data_extract, ByteArray.data_append]
    apply Array.toList_inj.1
    rw [Array.toList_extract, Array.toList_append]
    show List.extract (a.data.toList ++ b.data.toList) 0 a.data.size = _
    rw [List.extract_eq_take_drop, List.drop_zero, Nat.sub_zero, ← Array.length_toList, List.take_left]
  rw [h]
  exact beq_self_eq_true _

set_option maxRecDepth 20000 in
theorem deeds_big (a : Option Addr) (len cap : Nat) (w : World) (h1 : 1048576 < len) :
    Calls Tryz.prog 3 #[.slice a len cap] w fun e w' => e = .returned (.bool true) ∧ Below w.heap.size w w' := by
  go_enter Tryz.func3, Tryz.ntmps3
  go_wp2_with fail
  refine (big_yes a len cap w h1).mono ?_
  rintro e w' ⟨rfl, rfl⟩
  go_wp2
  go_ret
  exact ⟨rfl, Below.refl _ _⟩

set_option linter.unusedSimpArgs false in
set_option maxHeartbeats 16000000 in
set_option maxRecDepth 100000 in
theorem deeds_small (a : Option Addr) (len cap : Nat) (w : World) (hc : CodeAt w w.heap.size a len) (hg : ik.GD w) :
    Calls Tryz.prog 3 #[.slice a len cap] w fun e w' => e = .returned (.bool true) ∧ Below w.heap.size w w' := by
  have HC := Lib.hid hc
  have HG := Lib.hid hg
  have hlen := hc.1
  have HB := Lib.hid (Below.refl w.heap.size w)
  clear hc hg
  go_enter Tryz.func3, Tryz.ntmps3
  go_wp2_with (fail)
  refine (big_no a len cap w hlen).mono ?_
  rintro e w' ⟨rfl, rfl⟩
  clear hlen
  go_wp2_with (fail)
  refine (append_any a len cap w HC.out).mono ?_
  rintro e w1 ⟨u, d, s, t, rfl, hs, ht, hd, sm, b1⟩
  have HB := Lib.hid b1
  have SD := Lib.hid sm
  have HS := Lib.hid hs
  have HT := Lib.hid ht
  obtain ⟨aN1, aE1, aO1, aS1, cN1, cE1, cO1, cS1, rfl⟩ := own_slices hd
  obtain ⟨V1, hV1⟩ : ∃ V, V = w1.alloc (.cells #[.slice aN1 (d).nodes.length cN1, .slice aE1 (d).ents.length cE1, .slice aO1 (d).old.length cO1, .slice aS1 (d).steps.length cS1, .int .i64 (d).room, .int .i64 (d).next] 28) := ⟨_, rfl⟩
  have bV1 : Below w1.heap.size w1 V1 := by rw [hV1]; exact (Below.refl _ _).alloc (Nat.le_refl _) _
  have HB := Lib.hid (HB.out.trans (bV1.mono HB.out.size))
  have ED := Lib.hid (show Held V1 w1.heap.size (.slice aN1 (d).nodes.length cN1) (.slice aE1 (d).ents.length cE1) (.slice aO1 (d).old.length cO1) (.slice aS1 (d).steps.length cS1) (d) from ⟨by rw [hV1]; exact Box.new _ _ _, hd.is.below bV1⟩)
  clear hd sm hs ht b1
  obtain ⟨old, hold⟩ : ∃ x, x = textR (nodeAt d s) := ⟨_, rfl⟩
  obtain ⟨has, hhas⟩ : ∃ x, x = (nodeAt d s).isSome := ⟨_, rfl⟩
  have C := Lib.hid (specReadFile _ d s V1 (SD.out.ok (by decide)).1 ED.out.is)
  rw [← hold, ← hhas] at C
  have HOLD := Lib.hid hold
  have HHAS := Lib.hid hhas
  clear hold hhas
  have y0 := ED.out.box.at 0 _ rfl
  have y1 := ED.out.box.at 1 _ rfl
  have y2 := ED.out.box.at 2 _ rfl
  have y3 := ED.out.box.at 3 _ rfl
  have y4 := ED.out.box.at 4 _ rfl
  have y5 := ED.out.box.at 5 _ rfl
  go_wp2_with (fail)
  rw [← hV1]
  clear hV1 bV1
  refine C.out.mono ?_
  rintro e w2 ⟨rfl, hb⟩
  clear C
  clear y0 y1 y2 y3 y4 y5
  have ED := Lib.hid (ED.out.below hb)
  have HB := Lib.hid (HB.out.trans (hb.mono HB.out.size))
  clear hb
  obtain ⟨r, hr⟩ : ∃ r, r = appendFile d s t := ⟨_, rfl⟩
  have HR := Lib.hid hr
  have SX := Lib.hid (show Sm 7200 r.1 by rw [hr]; exact sm_append SD.out (by decide) (by have := HT.out; omega))
  have C := Lib.hid (ik.implAppendFile _ d s t w2 (SD.out.ok (by decide)) (by have := HT.out; omega) ED.out.is (HG.out.below HB.out))
  have C2 := Lib.hid (fun (w3 : World) (h : IsDisk w3 (.agg #[.slice aN1 d.nodes.length cN1, .slice aE1 d.ents.length cE1, .slice aO1 d.old.length cO1, .slice aS1 d.steps.length cS1, .int .i64 d.room, .int .i64 d.next]) d) => specAppend _ d s t w3 (SD.out.ok (by decide)) (by have := HT.out; omega) h)
  rw [← hr] at C C2
  obtain ⟨x, n⟩ := r
  clear hr
  have y0 := ED.out.box.at 0 _ rfl
  have y1 := ED.out.box.at 1 _ rfl
  have y2 := ED.out.box.at 2 _ rfl
  have y3 := ED.out.box.at 3 _ rfl
  have y4 := ED.out.box.at 4 _ rfl
  have y5 := ED.out.box.at 5 _ rfl
  go_wp2_with (fail)
  refine C.out.mono ?_
  rintro e w3 ⟨u, rfl, hd, hb⟩
  clear C
  clear y0 y1 y2 y3 y4 y5
  have ED := Lib.hid (ED.out.below hb)
  have HB := Lib.hid (HB.out.trans (hb.mono HB.out.size))
  clear hb
  replace hd : OwnDisk w2.heap.size w3 u x := hd
  have y0 := ED.out.box.at 0 _ rfl
  have y1 := ED.out.box.at 1 _ rfl
  have y2 := ED.out.box.at 2 _ rfl
  have y3 := ED.out.box.at 3 _ rfl
  have y4 := ED.out.box.at 4 _ rfl
  have y5 := ED.out.box.at 5 _ rfl
  have zl := ED.out.box.1
  obtain ⟨aN2, aE2, aO2, aS2, cN2, cE2, cO2, cS2, rfl⟩ := own_slices hd
  obtain ⟨V2, hV2⟩ : ∃ V, V = w3.alloc (.cells #[.slice aN2 (x).nodes.length cN2, .slice aE2 (x).ents.length cE2, .slice aO2 (x).old.length cO2, .slice aS2 (x).steps.length cS2, .int .i64 (x).room, .int .i64 (x).next] 28) := ⟨_, rfl⟩
  have bV2 : Below w3.heap.size w3 V2 := by rw [hV2]; exact (Below.refl _ _).alloc (Nat.le_refl _) _
  have ED := Lib.hid (ED.out.below bV2)
  have HB := Lib.hid (HB.out.trans (bV2.mono HB.out.size))
  have EX := Lib.hid (show Held V2 w3.heap.size (.slice aN2 (x).nodes.length cN2) (.slice aE2 (x).ents.length cE2) (.slice aO2 (x).old.length cO2) (.slice aS2 (x).steps.length cS2) (x) from ⟨by rw [hV2]; exact Box.new _ _ _, hd.is.below bV2⟩)
  clear hd
  have C := Lib.hid (C2.out V2 ED.out.is)
  clear C2
  go_wp2_with (fail)
  rw [← hV2]
  clear hV2 bV2 zl
  refine C.out.mono ?_
  rintro e w4 ⟨u, rfl, hd, hb⟩
  clear C
  clear y0 y1 y2 y3 y4 y5
  have ED := Lib.hid (ED.out.below hb)
  have EX := Lib.hid (EX.out.below hb)
  have HB := Lib.hid (HB.out.trans (hb.mono HB.out.size))
  clear hb
  replace hd : OwnDisk V2.heap.size w4 u x := hd
  have y0 := EX.out.box.at 0 _ rfl
  have y1 := EX.out.box.at 1 _ rfl
  have y2 := EX.out.box.at 2 _ rfl
  have y3 := EX.out.box.at 3 _ rfl
  have y4 := EX.out.box.at 4 _ rfl
  have y5 := EX.out.box.at 5 _ rfl
  have zl := EX.out.box.1
  obtain ⟨aN3, aE3, aO3, aS3, cN3, cE3, cO3, cS3, rfl⟩ := own_slices hd
  obtain ⟨V3, hV3⟩ : ∃ V, V = w4.alloc (.cells #[.slice aN3 (x).nodes.length cN3, .slice aE3 (x).ents.length cE3, .slice aO3 (x).old.length cO3, .slice aS3 (x).steps.length cS3, .int .i64 (x).room, .int .i64 (x).next] 28) := ⟨_, rfl⟩
  have bV3 : Below w4.heap.size w4 V3 := by rw [hV3]; exact (Below.refl _ _).alloc (Nat.le_refl _) _
  have ED := Lib.hid (ED.out.below bV3)
  have EX := Lib.hid (EX.out.below bV3)
  have HB := Lib.hid (HB.out.trans (bV3.mono HB.out.size))
  have EW := Lib.hid (show Held V3 w4.heap.size (.slice aN3 (x).nodes.length cN3) (.slice aE3 (x).ents.length cE3) (.slice aO3 (x).old.length cO3) (.slice aS3 (x).steps.length cS3) (x) from ⟨by rw [hV3]; exact Box.new _ _ _, hd.is.below bV3⟩)
  clear hd
  obtain ⟨l1, l2, l3, l4⟩ := sm_lens SX.out (by decide)
  have C := Lib.hid (sameD _ _ x V3 l1 l2 l3 l4 EX.out.is EW.out.is)
  have hnn : (n != n) = false := bne_self_eq_false n
  clear l1 l2 l3 l4
  go_wp2_with (fail)
  rw [← hV3]
  clear hV3 bV3 zl
  refine C.out.mono ?_
  rintro e w5 ⟨rfl, hb⟩
  clear C hnn
  clear y0 y1 y2 y3 y4 y5
  have ED := Lib.hid (ED.out.below hb)
  have EX := Lib.hid (EX.out.below hb)
  have EW := Lib.hid (EW.out.below hb)
  have HB := Lib.hid (HB.out.trans (hb.mono HB.out.size))
  clear hb EW
  have C := Lib.hid (specDiskOk _ d w5 (okD.loose (SD.out.ok (by decide))) ED.out.is)
  have y0 := ED.out.box.at 0 _ rfl
  have y1 := ED.out.box.at 1 _ rfl
  have y2 := ED.out.box.at 2 _ rfl
  have y3 := ED.out.box.at 3 _ rfl
  have y4 := ED.out.box.at 4 _ rfl
  have y5 := ED.out.box.at 5 _ rfl
  go_wp2_with (fail)
  refine C.out.mono ?_
  rintro e w6 ⟨rfl, hb⟩
  clear C
  clear y0 y1 y2 y3 y4 y5
  have ED := Lib.hid (ED.out.below hb)
  have EX := Lib.hid (EX.out.below hb)
  have HB := Lib.hid (HB.out.trans (hb.mono HB.out.size))
  clear hb
  cases hdk : diskOk d with
  | false =>
    have hno : appendFile d s t = (d, 3) := by unfold appendFile; rw [if_pos (.inl hdk)]
    obtain ⟨rfl, rfl⟩ : x = d ∧ n = 3 := by have h := HR.out.trans hno; simp only [Prod.mk.injEq] at h; exact h
    obtain ⟨l1, l2, l3, l4⟩ := sm_lens SD.out (by decide)
    have C := Lib.hid (sameD _ _ x w6 l1 l2 l3 l4 EX.out.is ED.out.is)
    clear l1 l2 l3 l4 hno
    have y0 := EX.out.box.at 0 _ rfl
    have y1 := EX.out.box.at 1 _ rfl
    have y2 := EX.out.box.at 2 _ rfl
    have y3 := EX.out.box.at 3 _ rfl
    have y4 := EX.out.box.at 4 _ rfl
    have y5 := EX.out.box.at 5 _ rfl
    have z0 := ED.out.box.at 0 _ rfl
    have z1 := ED.out.box.at 1 _ rfl
    have z2 := ED.out.box.at 2 _ rfl
    have z3 := ED.out.box.at 3 _ rfl
    have z4 := ED.out.box.at 4 _ rfl
    have z5 := ED.out.box.at 5 _ rfl
    go_wp2_with (fail)
    refine C.out.mono ?_
    rintro e w7 ⟨rfl, hb⟩
    go_wp2
    go_ret
    exact ⟨rfl, HB.out.trans (hb.mono HB.out.size)⟩
  | true =>
    cases has with
    | false =>
      have hE : hasE d.ents s = false := by
        cases h : hasE d.ents s with
        | false => rfl
        | true =>
          have h2 := HHAS.out
          rw [(right_at hdk h).1] at h2
          cases h2
      have hno : appendFile d s t = (d, 3) := by unfold appendFile; rw [if_pos (.inr hE)]
      obtain ⟨rfl, rfl⟩ : x = d ∧ n = 3 := by have h := HR.out.trans hno; simp only [Prod.mk.injEq] at h; exact h
      obtain ⟨l1, l2, l3, l4⟩ := sm_lens SD.out (by decide)
      have C := Lib.hid (sameD _ _ x w6 l1 l2 l3 l4 EX.out.is ED.out.is)
      clear l1 l2 l3 l4 hno
      have y0 := EX.out.box.at 0 _ rfl
      have y1 := EX.out.box.at 1 _ rfl
      have y2 := EX.out.box.at 2 _ rfl
      have y3 := EX.out.box.at 3 _ rfl
      have y4 := EX.out.box.at 4 _ rfl
      have y5 := EX.out.box.at 5 _ rfl
      have z0 := ED.out.box.at 0 _ rfl
      have z1 := ED.out.box.at 1 _ rfl
      have z2 := ED.out.box.at 2 _ rfl
      have z3 := ED.out.box.at 3 _ rfl
      have z4 := ED.out.box.at 4 _ rfl
      have z5 := ED.out.box.at 5 _ rfl
      go_wp2_with (fail)
      refine C.out.mono ?_
      rintro e w7 ⟨rfl, hb⟩
      go_wp2
      go_ret
      exact ⟨rfl, HB.out.trans (hb.mono HB.out.size)⟩
    | true =>
      have hE : hasE d.ents s = true := at_has HHAS.out.symm
      obtain ⟨x', n', u, h1, h2, h3, h4, h5⟩ := append_facts (t := t) hdk hE
      obtain ⟨rfl, rfl⟩ : x = x' ∧ n = n' := by have h := HR.out.trans h1; simp only [Prod.mk.injEq] at h; exact h
      have hold2 : old = (nodeN d s).2.1 := by rw [HOLD.out, (right_at hdk hE).1]; rfl
      have hos : old.size ≤ 1048576 := by
        have g1 := tot_each (d.nodes.map (·.2.1)) (nodeN d s).2.1 (List.mem_map.2 ⟨_, List.mem_of_getElem? (right_at hdk hE).2.1, rfl⟩)
        have g2 := used_le (SD.out.ok (by decide)).2
        unfold usedOn at g2
        rw [hold2]
        omega
      have HOS := Lib.hid hos
      rw [← hold2] at h4
      have HN := Lib.hid (ik.has_nok (right_srt hdk).2 hE)
      have DX := Lib.hid h2
      have HX := Lib.hid h3
      have HNOW := Lib.hid h4
      have H5 := Lib.hid h5
      clear h1 h2 h3 h4 h5 hE hold2 hdk hos
      obtain ⟨nw, hnw⟩ : ∃ x, x = old ++ u := ⟨_, rfl⟩
      have HNW := Lib.hid hnw
      have C := Lib.hid (disk.implReadFile _ x s w6 (SX.out.ok (by decide)).1 EX.out.is)
      rw [HNOW.out, ← hnw] at C
      obtain ⟨b0, hb0⟩ : ∃ b, b = (nodeAt x s).isSome := ⟨_, rfl⟩
      rw [← hb0] at C
      clear hnw hb0
      have y0 := EX.out.box.at 0 _ rfl
      have y1 := EX.out.box.at 1 _ rfl
      have y2 := EX.out.box.at 2 _ rfl
      have y3 := EX.out.box.at 3 _ rfl
      have y4 := EX.out.box.at 4 _ rfl
      have y5 := EX.out.box.at 5 _ rfl
      go_wp2_with (fail)
      refine C.out.mono ?_
      rintro e w7 ⟨rfl, hb⟩
      clear C
      clear y0 y1 y2 y3 y4 y5
      have ED := Lib.hid (ED.out.below hb)
      have EX := Lib.hid (EX.out.below hb)
      have HB := Lib.hid (HB.out.trans (hb.mono HB.out.size))
      clear hb
      obtain ⟨y, hy, dy, ey⟩ := sync_facts DX.out HX.out
      have DY := Lib.hid dy
      have HY := Lib.hid ey
      have SY := Lib.hid (show Sm 7600 y by have h := sm_syncFile (s := s) SX.out (by decide); rw [hy] at h; exact h)
      have C := Lib.hid (ik.implSyncFile _ x s w7 (SX.out.ok (by decide)) EX.out.is (HG.out.below HB.out))
      rw [hy] at C
      clear hy dy ey
      have y0 := EX.out.box.at 0 _ rfl
      have y1 := EX.out.box.at 1 _ rfl
      have y2 := EX.out.box.at 2 _ rfl
      have y3 := EX.out.box.at 3 _ rfl
      have y4 := EX.out.box.at 4 _ rfl
      have y5 := EX.out.box.at 5 _ rfl
      go_wp2_with (fail)
      refine C.out.mono ?_
      rintro e w8 ⟨u1, rfl, hd, hb⟩
      clear C
      clear y0 y1 y2 y3 y4 y5
      have ED := Lib.hid (ED.out.below hb)
      have EX := Lib.hid (EX.out.below hb)
      have HB := Lib.hid (HB.out.trans (hb.mono HB.out.size))
      clear hb
      replace hd : OwnDisk w7.heap.size w8 u1 y := hd
      obtain ⟨aN4, aE4, aO4, aS4, cN4, cE4, cO4, cS4, rfl⟩ := own_slices hd
      obtain ⟨V4, hV4⟩ : ∃ V, V = w8.alloc (.cells #[.slice aN4 (y).nodes.length cN4, .slice aE4 (y).ents.length cE4, .slice aO4 (y).old.length cO4, .slice aS4 (y).steps.length cS4, .int .i64 (y).room, .int .i64 (y).next] 28) := ⟨_, rfl⟩
      have bV4 : Below w8.heap.size w8 V4 := by rw [hV4]; exact (Below.refl _ _).alloc (Nat.le_refl _) _
      have ED := Lib.hid (ED.out.below bV4)
      have EX := Lib.hid (EX.out.below bV4)
      have HB := Lib.hid (HB.out.trans (bV4.mono HB.out.size))
      have EY := Lib.hid (show Held V4 w8.heap.size (.slice aN4 (y).nodes.length cN4) (.slice aE4 (y).ents.length cE4) (.slice aO4 (y).old.length cO4) (.slice aS4 (y).steps.length cS4) (y) from ⟨by rw [hV4]; exact Box.new _ _ _, hd.is.below bV4⟩)
      clear hd
      obtain ⟨z, hz, dz, ez⟩ := remove_facts DY.out HY.out
      have DZ := Lib.hid dz
      have HZ := Lib.hid ez
      have SZ := Lib.hid (show Sm 8000 z by have h := sm_remove (s := s) SY.out (by decide); rw [hz] at h; exact h)
      have C := Lib.hid (ik.implRemoveFile _ y s V4 (SY.out.ok (by decide)) (by have := HS.out; omega) EY.out.is (HG.out.below HB.out))
      rw [hz] at C
      clear hz dz ez
      have y0 := EY.out.box.at 0 _ rfl
      have y1 := EY.out.box.at 1 _ rfl
      have y2 := EY.out.box.at 2 _ rfl
      have y3 := EY.out.box.at 3 _ rfl
      have y4 := EY.out.box.at 4 _ rfl
      have y5 := EY.out.box.at 5 _ rfl
      go_wp2_with (fail)
      rw [← hV4]
      clear hV4 bV4
      refine C.out.mono ?_
      rintro e w9 ⟨u1, rfl, hd, hb⟩
      clear C
      clear y0 y1 y2 y3 y4 y5
      have ED := Lib.hid (ED.out.below hb)
      have EX := Lib.hid (EX.out.below hb)
      have EY := Lib.hid (EY.out.below hb)
      have HB := Lib.hid (HB.out.trans (hb.mono HB.out.size))
      clear hb
      replace hd : OwnDisk V4.heap.size w9 u1 z := hd
      obtain ⟨aN5, aE5, aO5, aS5, cN5, cE5, cO5, cS5, rfl⟩ := own_slices hd
      obtain ⟨V5, hV5⟩ : ∃ V, V = w9.alloc (.cells #[.slice aN5 (z).nodes.length cN5, .slice aE5 (z).ents.length cE5, .slice aO5 (z).old.length cO5, .slice aS5 (z).steps.length cS5, .int .i64 (z).room, .int .i64 (z).next] 28) := ⟨_, rfl⟩
      have bV5 : Below w9.heap.size w9 V5 := by rw [hV5]; exact (Below.refl _ _).alloc (Nat.le_refl _) _
      have ED := Lib.hid (ED.out.below bV5)
      have EX := Lib.hid (EX.out.below bV5)
      have EY := Lib.hid (EY.out.below bV5)
      have HB := Lib.hid (HB.out.trans (bV5.mono HB.out.size))
      have EZ := Lib.hid (show Held V5 w9.heap.size (.slice aN5 (z).nodes.length cN5) (.slice aE5 (z).ents.length cE5) (.slice aO5 (z).old.length cO5) (.slice aS5 (z).steps.length cS5) (z) from ⟨by rw [hV5]; exact Box.new _ _ _, hd.is.below bV5⟩)
      clear hd
      have C := Lib.hid (disk.implReadFile _ z s V5 (SZ.out.ok (by decide)).1 EZ.out.is)
      rw [no_at HZ.out] at C
      have y0 := EZ.out.box.at 0 _ rfl
      have y1 := EZ.out.box.at 1 _ rfl
      have y2 := EZ.out.box.at 2 _ rfl
      have y3 := EZ.out.box.at 3 _ rfl
      have y4 := EZ.out.box.at 4 _ rfl
      have y5 := EZ.out.box.at 5 _ rfl
      go_wp2_with (fail)
      rw [← hV5]
      clear hV5 bV5
      refine C.out.mono ?_
      rintro e w10 ⟨rfl, hb⟩
      clear C
      clear y0 y1 y2 y3 y4 y5
      have ED := Lib.hid (ED.out.below hb)
      have EX := Lib.hid (EX.out.below hb)
      have EY := Lib.hid (EY.out.below hb)
      have EZ := Lib.hid (EZ.out.below hb)
      have HB := Lib.hid (HB.out.trans (hb.mono HB.out.size))
      clear hb
      obtain ⟨g, ng, hgc, dg, hgf⟩ := create_facts DZ.out HZ.out HN.out
      have DG := Lib.hid dg
      have HGF := Lib.hid hgf
      have SG := Lib.hid (show Sm 8400 g by have h := sm_create (s := s) SZ.out (by decide); rw [hgc] at h; exact h)
      have C := Lib.hid (ik.implCreateFile _ z s w10 (SZ.out.ok (by decide)) (by have := HS.out; omega) EZ.out.is (HG.out.below HB.out))
      rw [hgc] at C
      clear hgc dg hgf
      have y0 := EZ.out.box.at 0 _ rfl
      have y1 := EZ.out.box.at 1 _ rfl
      have y2 := EZ.out.box.at 2 _ rfl
      have y3 := EZ.out.box.at 3 _ rfl
      have y4 := EZ.out.box.at 4 _ rfl
      have y5 := EZ.out.box.at 5 _ rfl
      go_wp2_with (fail)
      refine C.out.mono ?_
      rintro e w11 ⟨u1, rfl, hd, hb⟩
      clear C
      clear y0 y1 y2 y3 y4 y5
      have ED := Lib.hid (ED.out.below hb)
      have EX := Lib.hid (EX.out.below hb)
      have EY := Lib.hid (EY.out.below hb)
      have EZ := Lib.hid (EZ.out.below hb)
      have HB := Lib.hid (HB.out.trans (hb.mono HB.out.size))
      clear hb
      replace hd : OwnDisk w10.heap.size w11 u1 g := hd
      obtain ⟨aN6, aE6, aO6, aS6, cN6, cE6, cO6, cS6, rfl⟩ := own_slices hd
      obtain ⟨V6, hV6⟩ : ∃ V, V = w11.alloc (.cells #[.slice aN6 (g).nodes.length cN6, .slice aE6 (g).ents.length cE6, .slice aO6 (g).old.length cO6, .slice aS6 (g).steps.length cS6, .int .i64 (g).room, .int .i64 (g).next] 28) := ⟨_, rfl⟩
      have bV6 : Below w11.heap.size w11 V6 := by rw [hV6]; exact (Below.refl _ _).alloc (Nat.le_refl _) _
      have ED := Lib.hid (ED.out.below bV6)
      have EX := Lib.hid (EX.out.below bV6)
      have EY := Lib.hid (EY.out.below bV6)
      have EZ := Lib.hid (EZ.out.below bV6)
      have HB := Lib.hid (HB.out.trans (bV6.mono HB.out.size))
      have EG := Lib.hid (show Held V6 w11.heap.size (.slice aN6 (g).nodes.length cN6) (.slice aE6 (g).ents.length cE6) (.slice aO6 (g).old.length cO6) (.slice aS6 (g).steps.length cS6) (g) from ⟨by rw [hV6]; exact Box.new _ _ _, hd.is.below bV6⟩)
      clear hd
      obtain ⟨em, hem⟩ : ∃ x, x = textR (nodeAt g s) := ⟨_, rfl⟩
      obtain ⟨th, hth⟩ : ∃ x, x = (nodeAt g s).isSome := ⟨_, rfl⟩
      have HEM := Lib.hid hem
      have HTH := Lib.hid hth
      have C := Lib.hid (disk.implReadFile _ g s V6 (SG.out.ok (by decide)).1 EG.out.is)
      rw [← hem, ← hth] at C
      clear hem hth
      have y0 := EG.out.box.at 0 _ rfl
      have y1 := EG.out.box.at 1 _ rfl
      have y2 := EG.out.box.at 2 _ rfl
      have y3 := EG.out.box.at 3 _ rfl
      have y4 := EG.out.box.at 4 _ rfl
      have y5 := EG.out.box.at 5 _ rfl
      go_wp2_with (fail)
      rw [← hV6]
      clear hV6 bV6
      refine C.out.mono ?_
      rintro e w12 ⟨rfl, hb⟩
      clear C
      clear y0 y1 y2 y3 y4 y5
      have ED := Lib.hid (ED.out.below hb)
      have EX := Lib.hid (EX.out.below hb)
      have EY := Lib.hid (EY.out.below hb)
      have EZ := Lib.hid (EZ.out.below hb)
      have EG := Lib.hid (EG.out.below hb)
      have HB := Lib.hid (HB.out.trans (hb.mono HB.out.size))
      clear hb
      obtain ⟨r2, hr2⟩ : ∃ r, r = createFile g s := ⟨_, rfl⟩
      have HR2 := Lib.hid hr2
      have C := Lib.hid (ik.implCreateFile _ g s w12 (SG.out.ok (by decide)) (by have := HS.out; omega) EG.out.is (HG.out.below HB.out))
      rw [← hr2] at C
      obtain ⟨gg, tw⟩ := r2
      clear hr2
      have y0 := EG.out.box.at 0 _ rfl
      have y1 := EG.out.box.at 1 _ rfl
      have y2 := EG.out.box.at 2 _ rfl
      have y3 := EG.out.box.at 3 _ rfl
      have y4 := EG.out.box.at 4 _ rfl
      have y5 := EG.out.box.at 5 _ rfl
      go_wp2_with (fail)
      refine C.out.mono ?_
      rintro e w13 ⟨u1, rfl, hd, hb⟩
      clear C
      clear y0 y1 y2 y3 y4 y5
      have ED := Lib.hid (ED.out.below hb)
      have EX := Lib.hid (EX.out.below hb)
      have EY := Lib.hid (EY.out.below hb)
      have EZ := Lib.hid (EZ.out.below hb)
      have EG := Lib.hid (EG.out.below hb)
      have HB := Lib.hid (HB.out.trans (hb.mono HB.out.size))
      clear hb
      replace hd : OwnDisk w12.heap.size w13 u1 gg := hd
      obtain ⟨aN7, aE7, aO7, aS7, cN7, cE7, cO7, cS7, rfl⟩ := own_slices hd
      obtain ⟨V7, hV7⟩ : ∃ V, V = w13.alloc (.cells #[.slice aN7 (gg).nodes.length cN7, .slice aE7 (gg).ents.length cE7, .slice aO7 (gg).old.length cO7, .slice aS7 (gg).steps.length cS7, .int .i64 (gg).room, .int .i64 (gg).next] 28) := ⟨_, rfl⟩
      have bV7 : Below w13.heap.size w13 V7 := by rw [hV7]; exact (Below.refl _ _).alloc (Nat.le_refl _) _
      have ED := Lib.hid (ED.out.below bV7)
      have EX := Lib.hid (EX.out.below bV7)
      have EY := Lib.hid (EY.out.below bV7)
      have EZ := Lib.hid (EZ.out.below bV7)
      have EG := Lib.hid (EG.out.below bV7)
      have HB := Lib.hid (HB.out.trans (bV7.mono HB.out.size))
      have EGG := Lib.hid (show Held V7 w13.heap.size (.slice aN7 (gg).nodes.length cN7) (.slice aE7 (gg).ents.length cE7) (.slice aO7 (gg).old.length cO7) (.slice aS7 (gg).steps.length cS7) (gg) from ⟨by rw [hV7]; exact Box.new _ _ _, hd.is.below bV7⟩)
      clear hd EGG
      have CU := Lib.hid (fun (y : Later V7) => specUsedOn _ x y.val (by have := used_le (SX.out.ok (by decide)).2; omega) (SX.out.ok (by decide)).1 (EX.out.is.below y.2))
      obtain ⟨us, hus⟩ : ∃ q, q = usedOn x := ⟨_, rfl⟩
      rw [← hus] at CU
      have HUS := Lib.hid hus
      have hln : ¬ (nw.size : Int) < (old.size : Int) := by rw [HNW.out, ByteArray.size_append]; omega
      have hl0 : (0 : Int) ≤ (old.size : Int) := by omega
      have hl1 : (old.size : Int) ≤ (nw.size : Int) := by omega
      have hah : ((nw.extract 0 old.size).toList == old.toList) = true := by rw [HNW.out]; exact app_ahead old u
      have hg1 : decide (nw.size < old.size) = false := by rw [HNW.out, ByteArray.size_append]; simp
      have hg2 : decide ((nw.size : Int) < (old.size : Int)) = false := by simpa using hln
      have hg3 : ((nw.extract 0 old.size).toList != old.toList) = false := by rw [bne, hah]; rfl
      have HV7 := Lib.hid hV7
      clear hus hV7
      rcases H5.out with ⟨rfl, hu⟩ | ⟨rfl, hu⟩
      · have heq : (nw.toList == (old ++ t).toList) = true := by rw [HNW.out, hu]; exact beq_self_eq_true _
        have hne : (nw.toList != (old ++ t).toList) = false := by rw [bne, heq]; rfl
        have hadd : ¬ 9223372036854775807 < old.size + t.size := by have := HOS.out; have := HT.out; omega
        clear hu
        rcases HGF.out with ⟨rfl, g1, g2, g3⟩ | rfl
        · have G1 := Lib.hid (HTH.out.trans g1)
          obtain rfl : th = true := G1.out
          obtain rfl : em = { data := #[] } := HEM.out.trans g2
          obtain rfl : tw = 2 := by have h := congrArg Prod.snd HR2.out; rw [g3] at h; exact h
          clear g1 g2 g3
          have y0 := Later.cell (EX.out.box.at 0 _ rfl) EX.out.box.1
          have y1 := Later.cell (EX.out.box.at 1 _ rfl) EX.out.box.1
          have y2 := Later.cell (EX.out.box.at 2 _ rfl) EX.out.box.1
          have y3 := Later.cell (EX.out.box.at 3 _ rfl) EX.out.box.1
          have y4 := Later.cell (EX.out.box.at 4 _ rfl) EX.out.box.1
          have y5 := Later.cell (EX.out.box.at 5 _ rfl) EX.out.box.1
          go_wp2
          rw [← HV7.out]
          refine wp_region_later (by kernel_rfl) (by kernel_rfl) ?_
          repeat (first | go_big_quiet_skip | (go_big_quiet_want; go_big_quiet_op; first | go_big_quiet_on | (apply Exists.intro; refine ⟨fun x => ?_, ?_⟩; (first | (go_at_call 21; exact Calls.later (CU.out x))); go_big_quiet_on)))
          refine wpQuiet_nil ?_
          rintro w14 ⟨x14, hx14⟩
          have hb : Below V7.heap.size V7 w14 := hx14 ▸ x14.2
          clear hx14 x14 CU y0 y1 y2 y3 y4 y5
          have ED := Lib.hid (ED.out.below hb)
          have EX := Lib.hid (EX.out.below hb)
          have EY := Lib.hid (EY.out.below hb)
          have EZ := Lib.hid (EZ.out.below hb)
          have EG := Lib.hid (EG.out.below hb)
          have HB := Lib.hid (HB.out.trans (hb.mono HB.out.size))
          clear hb
          have C := Lib.hid (specDiskOk _ x w14 (okD.loose (SX.out.ok (by decide))) EX.out.is)
          rw [DX.out] at C
          have y0 := EX.out.box.at 0 _ rfl
          have y1 := EX.out.box.at 1 _ rfl
          have y2 := EX.out.box.at 2 _ rfl
          have y3 := EX.out.box.at 3 _ rfl
          have y4 := EX.out.box.at 4 _ rfl
          have y5 := EX.out.box.at 5 _ rfl
          go_wp2_with (fail)
          refine C.out.mono ?_
          rintro e w15 ⟨rfl, hb⟩
          clear C
          clear y0 y1 y2 y3 y4 y5
          have ED := Lib.hid (ED.out.below hb)
          have EX := Lib.hid (EX.out.below hb)
          have EY := Lib.hid (EY.out.below hb)
          have EZ := Lib.hid (EZ.out.below hb)
          have EG := Lib.hid (EG.out.below hb)
          have HB := Lib.hid (HB.out.trans (hb.mono HB.out.size))
          clear hb
          have C := Lib.hid (specDiskOk _ y w15 (okD.loose (SY.out.ok (by decide))) EY.out.is)
          rw [DY.out] at C
          have y0 := EY.out.box.at 0 _ rfl
          have y1 := EY.out.box.at 1 _ rfl
          have y2 := EY.out.box.at 2 _ rfl
          have y3 := EY.out.box.at 3 _ rfl
          have y4 := EY.out.box.at 4 _ rfl
          have y5 := EY.out.box.at 5 _ rfl
          go_wp2_with (fail)
          refine C.out.mono ?_
          rintro e w16 ⟨rfl, hb⟩
          clear C
          clear y0 y1 y2 y3 y4 y5
          have ED := Lib.hid (ED.out.below hb)
          have EX := Lib.hid (EX.out.below hb)
          have EY := Lib.hid (EY.out.below hb)
          have EZ := Lib.hid (EZ.out.below hb)
          have EG := Lib.hid (EG.out.below hb)
          have HB := Lib.hid (HB.out.trans (hb.mono HB.out.size))
          clear hb
          have C := Lib.hid (specDiskOk _ z w16 (okD.loose (SZ.out.ok (by decide))) EZ.out.is)
          rw [DZ.out] at C
          have y0 := EZ.out.box.at 0 _ rfl
          have y1 := EZ.out.box.at 1 _ rfl
          have y2 := EZ.out.box.at 2 _ rfl
          have y3 := EZ.out.box.at 3 _ rfl
          have y4 := EZ.out.box.at 4 _ rfl
          have y5 := EZ.out.box.at 5 _ rfl
          go_wp2_with (fail)
          refine C.out.mono ?_
          rintro e w17 ⟨rfl, hb⟩
          clear C
          clear y0 y1 y2 y3 y4 y5
          have ED := Lib.hid (ED.out.below hb)
          have EX := Lib.hid (EX.out.below hb)
          have EY := Lib.hid (EY.out.below hb)
          have EZ := Lib.hid (EZ.out.below hb)
          have EG := Lib.hid (EG.out.below hb)
          have HB := Lib.hid (HB.out.trans (hb.mono HB.out.size))
          clear hb
          have C := Lib.hid (specDiskOk _ g w17 (okD.loose (SG.out.ok (by decide))) EG.out.is)
          rw [DG.out] at C
          have y0 := EG.out.box.at 0 _ rfl
          have y1 := EG.out.box.at 1 _ rfl
          have y2 := EG.out.box.at 2 _ rfl
          have y3 := EG.out.box.at 3 _ rfl
          have y4 := EG.out.box.at 4 _ rfl
          have y5 := EG.out.box.at 5 _ rfl
          go_wp2_with (fail)
          refine C.out.mono ?_
          rintro e w18 ⟨rfl, hb⟩
          clear C
          clear y0 y1 y2 y3 y4 y5
          have ED := Lib.hid (ED.out.below hb)
          have EX := Lib.hid (EX.out.below hb)
          have EY := Lib.hid (EY.out.below hb)
          have EZ := Lib.hid (EZ.out.below hb)
          have EG := Lib.hid (EG.out.below hb)
          have HB := Lib.hid (HB.out.trans (hb.mono HB.out.size))
          clear hb
          go_wp2
          go_ret
          exact ⟨rfl, HB.out⟩
        · skip
          have y0 := Later.cell (EX.out.box.at 0 _ rfl) EX.out.box.1
          have y1 := Later.cell (EX.out.box.at 1 _ rfl) EX.out.box.1
          have y2 := Later.cell (EX.out.box.at 2 _ rfl) EX.out.box.1
          have y3 := Later.cell (EX.out.box.at 3 _ rfl) EX.out.box.1
          have y4 := Later.cell (EX.out.box.at 4 _ rfl) EX.out.box.1
          have y5 := Later.cell (EX.out.box.at 5 _ rfl) EX.out.box.1
          go_wp2
          rw [← HV7.out]
          refine wp_region_later (by kernel_rfl) (by kernel_rfl) ?_
          repeat (first | go_big_quiet_skip | (go_big_quiet_want; go_big_quiet_op; first | go_big_quiet_on | (apply Exists.intro; refine ⟨fun x => ?_, ?_⟩; (first | (go_at_call 21; exact Calls.later (CU.out x))); go_big_quiet_on)))
          refine wpQuiet_nil ?_
          rintro w14 ⟨x14, hx14⟩
          have hb : Below V7.heap.size V7 w14 := hx14 ▸ x14.2
          clear hx14 x14 CU y0 y1 y2 y3 y4 y5
          have ED := Lib.hid (ED.out.below hb)
          have EX := Lib.hid (EX.out.below hb)
          have EY := Lib.hid (EY.out.below hb)
          have EZ := Lib.hid (EZ.out.below hb)
          have EG := Lib.hid (EG.out.below hb)
          have HB := Lib.hid (HB.out.trans (hb.mono HB.out.size))
          clear hb
          have C := Lib.hid (specDiskOk _ x w14 (okD.loose (SX.out.ok (by decide))) EX.out.is)
          rw [DX.out] at C
          have y0 := EX.out.box.at 0 _ rfl
          have y1 := EX.out.box.at 1 _ rfl
          have y2 := EX.out.box.at 2 _ rfl
          have y3 := EX.out.box.at 3 _ rfl
          have y4 := EX.out.box.at 4 _ rfl
          have y5 := EX.out.box.at 5 _ rfl
          go_wp2_with (fail)
          refine C.out.mono ?_
          rintro e w15 ⟨rfl, hb⟩
          clear C
          clear y0 y1 y2 y3 y4 y5
          have ED := Lib.hid (ED.out.below hb)
          have EX := Lib.hid (EX.out.below hb)
          have EY := Lib.hid (EY.out.below hb)
          have EZ := Lib.hid (EZ.out.below hb)
          have EG := Lib.hid (EG.out.below hb)
          have HB := Lib.hid (HB.out.trans (hb.mono HB.out.size))
          clear hb
          have C := Lib.hid (specDiskOk _ y w15 (okD.loose (SY.out.ok (by decide))) EY.out.is)
          rw [DY.out] at C
          have y0 := EY.out.box.at 0 _ rfl
          have y1 := EY.out.box.at 1 _ rfl
          have y2 := EY.out.box.at 2 _ rfl
          have y3 := EY.out.box.at 3 _ rfl
          have y4 := EY.out.box.at 4 _ rfl
          have y5 := EY.out.box.at 5 _ rfl
          go_wp2_with (fail)
          refine C.out.mono ?_
          rintro e w16 ⟨rfl, hb⟩
          clear C
          clear y0 y1 y2 y3 y4 y5
          have ED := Lib.hid (ED.out.below hb)
          have EX := Lib.hid (EX.out.below hb)
          have EY := Lib.hid (EY.out.below hb)
          have EZ := Lib.hid (EZ.out.below hb)
          have EG := Lib.hid (EG.out.below hb)
          have HB := Lib.hid (HB.out.trans (hb.mono HB.out.size))
          clear hb
          have C := Lib.hid (specDiskOk _ z w16 (okD.loose (SZ.out.ok (by decide))) EZ.out.is)
          rw [DZ.out] at C
          have y0 := EZ.out.box.at 0 _ rfl
          have y1 := EZ.out.box.at 1 _ rfl
          have y2 := EZ.out.box.at 2 _ rfl
          have y3 := EZ.out.box.at 3 _ rfl
          have y4 := EZ.out.box.at 4 _ rfl
          have y5 := EZ.out.box.at 5 _ rfl
          go_wp2_with (fail)
          refine C.out.mono ?_
          rintro e w17 ⟨rfl, hb⟩
          clear C
          clear y0 y1 y2 y3 y4 y5
          have ED := Lib.hid (ED.out.below hb)
          have EX := Lib.hid (EX.out.below hb)
          have EY := Lib.hid (EY.out.below hb)
          have EZ := Lib.hid (EZ.out.below hb)
          have EG := Lib.hid (EG.out.below hb)
          have HB := Lib.hid (HB.out.trans (hb.mono HB.out.size))
          clear hb
          have C := Lib.hid (specDiskOk _ g w17 (okD.loose (SG.out.ok (by decide))) EG.out.is)
          rw [DG.out] at C
          have y0 := EG.out.box.at 0 _ rfl
          have y1 := EG.out.box.at 1 _ rfl
          have y2 := EG.out.box.at 2 _ rfl
          have y3 := EG.out.box.at 3 _ rfl
          have y4 := EG.out.box.at 4 _ rfl
          have y5 := EG.out.box.at 5 _ rfl
          go_wp2_with (fail)
          refine C.out.mono ?_
          rintro e w18 ⟨rfl, hb⟩
          clear C
          clear y0 y1 y2 y3 y4 y5
          have ED := Lib.hid (ED.out.below hb)
          have EX := Lib.hid (EX.out.below hb)
          have EY := Lib.hid (EY.out.below hb)
          have EZ := Lib.hid (EZ.out.below hb)
          have EG := Lib.hid (EG.out.below hb)
          have HB := Lib.hid (HB.out.trans (hb.mono HB.out.size))
          clear hb
          go_wp2
          go_ret
          exact ⟨rfl, HB.out⟩
      · have huu : ((us : Int) == x.room) = true := by rw [HUS.out, hu]; exact beq_self_eq_true _
        have hun : ((us : Int) != x.room) = false := by rw [HUS.out, hu]; exact bne_self_eq_false _
        clear hu
        rcases HGF.out with ⟨rfl, g1, g2, g3⟩ | rfl
        · have G1 := Lib.hid (HTH.out.trans g1)
          obtain rfl : th = true := G1.out
          obtain rfl : em = { data := #[] } := HEM.out.trans g2
          obtain rfl : tw = 2 := by have h := congrArg Prod.snd HR2.out; rw [g3] at h; exact h
          clear g1 g2 g3
          have y0 := Later.cell (EX.out.box.at 0 _ rfl) EX.out.box.1
          have y1 := Later.cell (EX.out.box.at 1 _ rfl) EX.out.box.1
          have y2 := Later.cell (EX.out.box.at 2 _ rfl) EX.out.box.1
          have y3 := Later.cell (EX.out.box.at 3 _ rfl) EX.out.box.1
          have y4 := Later.cell (EX.out.box.at 4 _ rfl) EX.out.box.1
          have y5 := Later.cell (EX.out.box.at 5 _ rfl) EX.out.box.1
          go_wp2
          rw [← HV7.out]
          refine wp_region_later (by kernel_rfl) (by kernel_rfl) ?_
          repeat (first | go_big_quiet_skip | (go_big_quiet_want; go_big_quiet_op; first | go_big_quiet_on | (apply Exists.intro; refine ⟨fun x => ?_, ?_⟩; (first | (go_at_call 21; exact Calls.later (CU.out x))); go_big_quiet_on)))
          refine wpQuiet_nil ?_
          rintro w14 ⟨x14, hx14⟩
          have hb : Below V7.heap.size V7 w14 := hx14 ▸ x14.2
          clear hx14 x14 CU y0 y1 y2 y3 y4 y5
          have ED := Lib.hid (ED.out.below hb)
          have EX := Lib.hid (EX.out.below hb)
          have EY := Lib.hid (EY.out.below hb)
          have EZ := Lib.hid (EZ.out.below hb)
          have EG := Lib.hid (EG.out.below hb)
          have HB := Lib.hid (HB.out.trans (hb.mono HB.out.size))
          clear hb
          have C := Lib.hid (specDiskOk _ x w14 (okD.loose (SX.out.ok (by decide))) EX.out.is)
          rw [DX.out] at C
          have y0 := EX.out.box.at 0 _ rfl
          have y1 := EX.out.box.at 1 _ rfl
          have y2 := EX.out.box.at 2 _ rfl
          have y3 := EX.out.box.at 3 _ rfl
          have y4 := EX.out.box.at 4 _ rfl
          have y5 := EX.out.box.at 5 _ rfl
          go_wp2_with (fail)
          refine C.out.mono ?_
          rintro e w15 ⟨rfl, hb⟩
          clear C
          clear y0 y1 y2 y3 y4 y5
          have ED := Lib.hid (ED.out.below hb)
          have EX := Lib.hid (EX.out.below hb)
          have EY := Lib.hid (EY.out.below hb)
          have EZ := Lib.hid (EZ.out.below hb)
          have EG := Lib.hid (EG.out.below hb)
          have HB := Lib.hid (HB.out.trans (hb.mono HB.out.size))
          clear hb
          have C := Lib.hid (specDiskOk _ y w15 (okD.loose (SY.out.ok (by decide))) EY.out.is)
          rw [DY.out] at C
          have y0 := EY.out.box.at 0 _ rfl
          have y1 := EY.out.box.at 1 _ rfl
          have y2 := EY.out.box.at 2 _ rfl
          have y3 := EY.out.box.at 3 _ rfl
          have y4 := EY.out.box.at 4 _ rfl
          have y5 := EY.out.box.at 5 _ rfl
          go_wp2_with (fail)
          refine C.out.mono ?_
          rintro e w16 ⟨rfl, hb⟩
          clear C
          clear y0 y1 y2 y3 y4 y5
          have ED := Lib.hid (ED.out.below hb)
          have EX := Lib.hid (EX.out.below hb)
          have EY := Lib.hid (EY.out.below hb)
          have EZ := Lib.hid (EZ.out.below hb)
          have EG := Lib.hid (EG.out.below hb)
          have HB := Lib.hid (HB.out.trans (hb.mono HB.out.size))
          clear hb
          have C := Lib.hid (specDiskOk _ z w16 (okD.loose (SZ.out.ok (by decide))) EZ.out.is)
          rw [DZ.out] at C
          have y0 := EZ.out.box.at 0 _ rfl
          have y1 := EZ.out.box.at 1 _ rfl
          have y2 := EZ.out.box.at 2 _ rfl
          have y3 := EZ.out.box.at 3 _ rfl
          have y4 := EZ.out.box.at 4 _ rfl
          have y5 := EZ.out.box.at 5 _ rfl
          go_wp2_with (fail)
          refine C.out.mono ?_
          rintro e w17 ⟨rfl, hb⟩
          clear C
          clear y0 y1 y2 y3 y4 y5
          have ED := Lib.hid (ED.out.below hb)
          have EX := Lib.hid (EX.out.below hb)
          have EY := Lib.hid (EY.out.below hb)
          have EZ := Lib.hid (EZ.out.below hb)
          have EG := Lib.hid (EG.out.below hb)
          have HB := Lib.hid (HB.out.trans (hb.mono HB.out.size))
          clear hb
          have C := Lib.hid (specDiskOk _ g w17 (okD.loose (SG.out.ok (by decide))) EG.out.is)
          rw [DG.out] at C
          have y0 := EG.out.box.at 0 _ rfl
          have y1 := EG.out.box.at 1 _ rfl
          have y2 := EG.out.box.at 2 _ rfl
          have y3 := EG.out.box.at 3 _ rfl
          have y4 := EG.out.box.at 4 _ rfl
          have y5 := EG.out.box.at 5 _ rfl
          go_wp2_with (fail)
          refine C.out.mono ?_
          rintro e w18 ⟨rfl, hb⟩
          clear C
          clear y0 y1 y2 y3 y4 y5
          have ED := Lib.hid (ED.out.below hb)
          have EX := Lib.hid (EX.out.below hb)
          have EY := Lib.hid (EY.out.below hb)
          have EZ := Lib.hid (EZ.out.below hb)
          have EG := Lib.hid (EG.out.below hb)
          have HB := Lib.hid (HB.out.trans (hb.mono HB.out.size))
          clear hb
          go_wp2
          go_ret
          exact ⟨rfl, HB.out⟩
        · skip
          have y0 := Later.cell (EX.out.box.at 0 _ rfl) EX.out.box.1
          have y1 := Later.cell (EX.out.box.at 1 _ rfl) EX.out.box.1
          have y2 := Later.cell (EX.out.box.at 2 _ rfl) EX.out.box.1
          have y3 := Later.cell (EX.out.box.at 3 _ rfl) EX.out.box.1
          have y4 := Later.cell (EX.out.box.at 4 _ rfl) EX.out.box.1
          have y5 := Later.cell (EX.out.box.at 5 _ rfl) EX.out.box.1
          go_wp2
          rw [← HV7.out]
          refine wp_region_later (by kernel_rfl) (by kernel_rfl) ?_
          repeat (first | go_big_quiet_skip | (go_big_quiet_want; go_big_quiet_op; first | go_big_quiet_on | (apply Exists.intro; refine ⟨fun x => ?_, ?_⟩; (first | (go_at_call 21; exact Calls.later (CU.out x))); go_big_quiet_on)))
          refine wpQuiet_nil ?_
          rintro w14 ⟨x14, hx14⟩
          have hb : Below V7.heap.size V7 w14 := hx14 ▸ x14.2
          clear hx14 x14 CU y0 y1 y2 y3 y4 y5
          have ED := Lib.hid (ED.out.below hb)
          have EX := Lib.hid (EX.out.below hb)
          have EY := Lib.hid (EY.out.below hb)
          have EZ := Lib.hid (EZ.out.below hb)
          have EG := Lib.hid (EG.out.below hb)
          have HB := Lib.hid (HB.out.trans (hb.mono HB.out.size))
          clear hb
          have C := Lib.hid (specDiskOk _ x w14 (okD.loose (SX.out.ok (by decide))) EX.out.is)
          rw [DX.out] at C
          have y0 := EX.out.box.at 0 _ rfl
          have y1 := EX.out.box.at 1 _ rfl
          have y2 := EX.out.box.at 2 _ rfl
          have y3 := EX.out.box.at 3 _ rfl
          have y4 := EX.out.box.at 4 _ rfl
          have y5 := EX.out.box.at 5 _ rfl
          go_wp2_with (fail)
          refine C.out.mono ?_
          rintro e w15 ⟨rfl, hb⟩
          clear C
          clear y0 y1 y2 y3 y4 y5
          have ED := Lib.hid (ED.out.below hb)
          have EX := Lib.hid (EX.out.below hb)
          have EY := Lib.hid (EY.out.below hb)
          have EZ := Lib.hid (EZ.out.below hb)
          have EG := Lib.hid (EG.out.below hb)
          have HB := Lib.hid (HB.out.trans (hb.mono HB.out.size))
          clear hb
          have C := Lib.hid (specDiskOk _ y w15 (okD.loose (SY.out.ok (by decide))) EY.out.is)
          rw [DY.out] at C
          have y0 := EY.out.box.at 0 _ rfl
          have y1 := EY.out.box.at 1 _ rfl
          have y2 := EY.out.box.at 2 _ rfl
          have y3 := EY.out.box.at 3 _ rfl
          have y4 := EY.out.box.at 4 _ rfl
          have y5 := EY.out.box.at 5 _ rfl
          go_wp2_with (fail)
          refine C.out.mono ?_
          rintro e w16 ⟨rfl, hb⟩
          clear C
          clear y0 y1 y2 y3 y4 y5
          have ED := Lib.hid (ED.out.below hb)
          have EX := Lib.hid (EX.out.below hb)
          have EY := Lib.hid (EY.out.below hb)
          have EZ := Lib.hid (EZ.out.below hb)
          have EG := Lib.hid (EG.out.below hb)
          have HB := Lib.hid (HB.out.trans (hb.mono HB.out.size))
          clear hb
          have C := Lib.hid (specDiskOk _ z w16 (okD.loose (SZ.out.ok (by decide))) EZ.out.is)
          rw [DZ.out] at C
          have y0 := EZ.out.box.at 0 _ rfl
          have y1 := EZ.out.box.at 1 _ rfl
          have y2 := EZ.out.box.at 2 _ rfl
          have y3 := EZ.out.box.at 3 _ rfl
          have y4 := EZ.out.box.at 4 _ rfl
          have y5 := EZ.out.box.at 5 _ rfl
          go_wp2_with (fail)
          refine C.out.mono ?_
          rintro e w17 ⟨rfl, hb⟩
          clear C
          clear y0 y1 y2 y3 y4 y5
          have ED := Lib.hid (ED.out.below hb)
          have EX := Lib.hid (EX.out.below hb)
          have EY := Lib.hid (EY.out.below hb)
          have EZ := Lib.hid (EZ.out.below hb)
          have EG := Lib.hid (EG.out.below hb)
          have HB := Lib.hid (HB.out.trans (hb.mono HB.out.size))
          clear hb
          have C := Lib.hid (specDiskOk _ g w17 (okD.loose (SG.out.ok (by decide))) EG.out.is)
          rw [DG.out] at C
          have y0 := EG.out.box.at 0 _ rfl
          have y1 := EG.out.box.at 1 _ rfl
          have y2 := EG.out.box.at 2 _ rfl
          have y3 := EG.out.box.at 3 _ rfl
          have y4 := EG.out.box.at 4 _ rfl
          have y5 := EG.out.box.at 5 _ rfl
          go_wp2_with (fail)
          refine C.out.mono ?_
          rintro e w18 ⟨rfl, hb⟩
          clear C
          clear y0 y1 y2 y3 y4 y5
          have ED := Lib.hid (ED.out.below hb)
          have EX := Lib.hid (EX.out.below hb)
          have EY := Lib.hid (EY.out.below hb)
          have EZ := Lib.hid (EZ.out.below hb)
          have EG := Lib.hid (EG.out.below hb)
          have HB := Lib.hid (HB.out.trans (hb.mono HB.out.size))
          clear hb
          go_wp2
          go_ret
          exact ⟨rfl, HB.out⟩

end Go.Proofs.YtdacdbidennjhaaGreatDoor.deed
