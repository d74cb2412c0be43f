/-
  Contract of spec.Fallen.
-/
import Derived.Test.YtkibddcjogfklaaGreatDoorDuM
import Derived.Test.YtkibddcjogfklaaGreatDoorDqX
import Derived.Test.YtkibddcjogfklaaGreatDoorDpX
import Derived.Test.YtkibddcjogfklaaGreatDoorDrY
import Derived.Test.YtkibddcjogfklaaGreatDoorLater
import Derived.Test.YtkibddcjogfklaaGreatDoorDuW
import Derived.Laws.CopyOwn
import Derived.Test.YtkibddcjogfklaaGreatDoorDrX
namespace Go.Proofs.YtkibddcjogfklaaGreatDoor.fall
open Go.RowKit
open kit strs recs disk deed kd

theorem brought_same (n : Int) (m : Nat) (w : World) :
    Calls Tryz.prog 36 #[.int .i64 n, .int .i64 0, .int .i64 m] w fun e w' => e = .returned (.int .i64 (clampN n m : Nat)) ∧ w' = w :=
  (specBrought n m w).mono fun _ _ ⟨h1, h2⟩ => ⟨h1, h2.symm⟩
theorem atI_nth {w : World} {a : Option Addr} {n k : Nat} {xs : List Int} (h : AtI w a n xs) (hk : k < n) :
    ∃ z b off, xs[k]? = some z ∧ a = some ⟨b, off, none⟩ ∧ b < w.heap.size ∧ w.cell? ⟨b, off + k, none⟩ = some (.int .i64 z) := by
  have hl : xs.length = n := by have := h.1; rw [List.length_map] at this; omega
  rcases h.2 with h0 | ⟨b, off, ha, hb, hc⟩
  · omega
  · have hx : xs[k]? = some (xs[k]'(by omega)) := List.getElem?_eq_getElem _
    exact ⟨_, b, off, hx, ha, hb, hc k _ (by rw [List.getElem?_map, hx]; rfl)⟩
theorem desk_atO {B : Nat} {w : World} {b r : Nat} {sN sE sS : Value} {a : Option Addr} {n c : Nat} {d : D} (h : Desk B w b r sN sE (.slice a n c) sS d) : AtE w a n d.old := by
  obtain ⟨aN, aE, aO, aS, nN, cN, nE, cE, nO, cO, nS, cS, hv, h1, h2, h3, h4⟩ := h.own.is
  simp only [Value.agg.injEq, Array.mk.injEq, List.cons.injEq, Value.slice.injEq] at hv
  obtain ⟨_, _, ⟨rfl, rfl, rfl⟩, _⟩ := hv
  exact h3
theorem desk_atS {B : Nat} {w : World} {b r : Nat} {sN sE sO : Value} {a : Option Addr} {n c : Nat} {d : D} (h : Desk B w b r sN sE sO (.slice a n c) d) : strs.At w a n d.steps := by
  obtain ⟨aN, aE, aO, aS, nN, cN, nE, cE, nO, cO, nS, cS, hv, h1, h2, h3, h4⟩ := h.own.is
  simp only [Value.agg.injEq, Array.mk.injEq, List.cons.injEq, Value.slice.injEq] at hv
  obtain ⟨_, _, _, ⟨rfl, rfl, rfl⟩, _⟩ := hv
  exact h4
theorem desk_node {B : Nat} {w : World} {b r g c n : Nat} {sE sO sS u : Value} {d x : D} {j : Nat} (h : Desk B w b r (.slice (some ⟨g, 0, none⟩) n c) sE sO sS d) (hn : n = d.nodes.length) (hx : { d with nodes := x.nodes } = x) (hc : (cellsN d.nodes).set j u = cellsN x.nodes) :
    Desk B (w.setCell ⟨g, j, none⟩ u) b r (.slice (some ⟨g, 0, none⟩) n c) sE sO sS x := by
  subst hn
  have := h.node hc
  rw [hx] at this
  exact this
theorem desk_frozen {B : Nat} {w : World} {b r g c n : Nat} {sE sO sS : Value} {d : D} (h : Desk B w b r (.slice (some ⟨g, 0, none⟩) n c) sE sO sS d) (hn : n = d.nodes.length) (j : Nat) : w.frozen? ⟨g, j, none⟩ = false := by
  subst hn
  exact h.rowN.frozenAt j
/-- while the nodes are cut, one after the other -/
def midK (d : D) (l : List Ent) (ks : List Int) (k : Nat) : D := { d with nodes := (d.nodes.take k).map (leftN ks) ++ d.nodes.drop k, ents := l, old := l, steps := [] }
theorem midK_start (d : D) (l : List Ent) (ks : List Int) : ({ ({ ({ d with old := l } : D) with ents := l } : D) with steps := [] } : D) = midK d l ks 0 := by unfold midK; simp
theorem midK_len (d : D) (l : List Ent) (ks : List Int) {k : Nat} (hk : k ≤ d.nodes.length) : (midK d l ks k).nodes.length = d.nodes.length := by
  unfold midK
  simp
  omega
theorem midK_at {d : D} {l : List Ent} {ks : List Int} {k : Nat} {n : Nod} (h : d.nodes[k]? = some n) : (midK d l ks k).nodes[k]? = some n := by
  have hk := (List.getElem?_eq_some_iff.1 h).1
  show ((d.nodes.take k).map (leftN ks) ++ d.nodes.drop k)[k]? = _
  rw [List.getElem?_append_right (by simp; omega), List.getElem?_drop, ← h]
  congr 1
  simp
  omega
theorem midK_set {d : D} {l : List Ent} {ks : List Int} {k : Nat} {n : Nod} (h : d.nodes[k]? = some n) : (midK d l ks k).nodes.set k (leftN ks n) = (midK d l ks (k + 1)).nodes := by
  have hk := (List.getElem?_eq_some_iff.1 h).1
  exact part_set ((d.nodes.take k).map (leftN ks)) _ d.nodes (leftN ks n) d.nodes.length k (by simp; omega) (by rw [List.take_add_one, h, List.map_append]; rfl) rfl hk
theorem midK_end (d : D) (l : List Ent) (ks : List Int) : midK d l ks d.nodes.length = mid d l ks := by unfold midK mid; simp
theorem left_size (ks : List Int) (n : Nod) : (leftN ks n).2.1.size ≤ n.2.1.size := by
  show (n.2.1.extract 0 _).size ≤ _
  rw [ByteArray.size_extract]
  omega
theorem tot_left (ks : List Int) : ∀ ns : List Nod, tot ((ns.map (leftN ks)).map (·.2.1)) ≤ tot (ns.map (·.2.1))
  | [] => Nat.le_refl _
  | n :: r => by
    have ih := tot_left ks r
    have h := left_size ks n
    unfold tot at *
    simp only [List.map_cons, List.sum_cons]
    omega
theorem stepsTo_nil : tot ([] : List ByteArray) = 0 := rfl
theorem mid_ok {d : D} {l : List Ent} {ks : List Int} (hk : okD d) (hr : diskOk d = true) (hl : entsOk d l = true) (hw : wfE l) : okL (mid d l ks) := by
  obtain ⟨⟨h1, h2, h3, h4, h5, h6, h7, h8, h9, h10⟩, hb⟩ := hk
  have hs := ents_small hl
  have hbl := bulkE_bound 20 l hs.2
  have hm : l.length ≤ maxLen := by unfold maxLen; omega
  refine ⟨⟨?_, hw, hw, (fun s hs => by cases hs), h5, h6, ?_, hm, hm, Nat.zero_le _⟩, ?_⟩
  · intro n hn
    obtain ⟨m, hm, rfl⟩ := List.mem_map.1 hn
    have ha := h1 m hm
    have hz := left_size ks m
    have hu := right_uns hr m hm
    have hmm := more_le ks m
    refine ⟨ha.1, Nat.le_trans hz ha.2.1, ?_⟩
    show wfI ((m.2.2.toNat + moreOf ks m : Nat) : Int)
    have hx : m.2.1.size ≤ maxLen := ha.2.1
    unfold maxLen at hx
    unfold wfI
    omega
  · show (d.nodes.map (leftN ks)).length ≤ maxLen
    rw [List.length_map]
    exact h7
  · have ht := tot_left ks d.nodes
    unfold bulk bulkN at hb ⊢
    simp only [List.length_map] at hb ⊢
    show (d.nodes.map (leftN ks)).length + tot ((d.nodes.map (leftN ks)).map (·.2.1)) + bulkE l + bulkE l + (([] : List ByteArray).length + tot []) ≤ 1500000
    rw [List.length_map, stepsTo_nil]
    have : (([] : List ByteArray).length) = 0 := rfl
    omega
theorem wf_ents {d : D} {l : List Ent} (hk : okD d) (hl : entsOk d l = true) : wfE l := fun e he => by
  have h1 := (ents_small hl).2 e he
  have h2 := ents_nodes hl e he
  rw [ik.nodeIx_mem, List.any_eq_true] at h2
  obtain ⟨n, hn, hne⟩ := h2
  have hne : n.1 = e.2 := by simpa using hne
  have h3 := (hk.1.1 n hn).1
  rw [hne] at h3
  exact ⟨by unfold maxLen; omega, h3⟩
theorem ids_pos {d : D} (h : diskOk d = true) : ∀ n ∈ d.nodes, 0 < n.1 := by
  have h1 := (right_parts h).2.1
  rw [ik.ids_none] at h1
  exact ids_over h1

set_option maxHeartbeats 8000000 in
set_option maxRecDepth 100000 in
theorem specFallen (v : Value) (d : D) (m : Int) (aK : Option Addr) (nK cK : Nat) (ks : List Int) (w : World) (hk : okD d) (hK : AtI w aK nK ks) (hn : nK ≤ 1048576) (hv : IsDisk w v d) :
    Calls Tryz.prog 15 #[v, .int .i64 m, .slice aK nK cK] w (SyncR (fallen d m ks) w) := by
  have hv0 := hv
  obtain ⟨aN, aE, aO, aS, nN, cN, nE, cE, nO, cO, nS, cS, rfl, _, _, _, _⟩ := hv0
  obtain ⟨W, hW⟩ : ∃ W, W = (w.alloc (.cells #[.slice aN nN cN, .slice aE nE cE, .slice aO nO cO, .slice aS nS cS, .int .i64 d.room, .int .i64 d.next] 32)).alloc (.cells #[.slice none 0 0, .slice none 0 0, .slice none 0 0, .slice none 0 0, .int .i64 0, .int .i64 0] 32) := ⟨_, rfl⟩
  have hWB : Below w.heap.size w W := by rw [hW]; exact ((Below.refl _ _).alloc (Nat.le_refl _) _).alloc (by simp) _
  have hWs : w.heap.size + 1 < W.heap.size ∧ W.heap.size = w.heap.size + 1 + 1 := by rw [hW]; simp
  have bx := show disk.Box W w.heap.size [.slice aN nN cN, .slice aE nE cE, .slice aO nO cO, .slice aS nS cS, .int .i64 d.room, .int .i64 d.next] from by rw [hW]; exact (Box.new _ #[.slice aN nN cN, .slice aE nE cE, .slice aO nO cO, .slice aS nS cS, .int .i64 d.room, .int .i64 d.next] _).below ((Below.refl _ _).alloc (Nat.le_refl _) _)
  have br := show disk.Box W (w.heap.size + 1) [.slice none 0 0, .slice none 0 0, .slice none 0 0, .slice none 0 0, .int .i64 0, .int .i64 0] from by
    have h := Box.new (w.alloc (.cells #[.slice aN nN cN, .slice aE nE cE, .slice aO nO cO, .slice aS nS cS, .int .i64 d.room, .int .i64 d.next] 32)) #[.slice none 0 0, .slice none 0 0, .slice none 0 0, .slice none 0 0, .int .i64 0, .int .i64 0] 32
    rw [hW]
    simpa using h
  have fz : ∀ j, W.frozen? ⟨w.heap.size, j, none⟩ = false := fun j => by rw [hW]; simp
  have fr : ∀ j, W.frozen? ⟨w.heap.size + 1, j, none⟩ = false := fun j => by rw [hW]; simp
  have x0 := bx.at 0 _ rfl
  have x1 := bx.at 1 _ rfl
  have x2 := bx.at 2 _ rfl
  have x3 := bx.at 3 _ rfl
  have x4 := bx.at 4 _ rfl
  have x5 := bx.at 5 _ rfl
  have CC := Lib.hid (specCopy _ d W (okD.loose hk) (hv.below hWB))
  have BX := Lib.hid bx
  have BR := Lib.hid br
  have FZ := Lib.hid fz
  have FR := Lib.hid fr
  have HB := Lib.hid hWB
  have HK := Lib.hid hk
  have KI := Lib.hid hK
  have KN := Lib.hid hn
  clear hK hn
  have HWs := Lib.hid hWs
  obtain ⟨R, hR⟩ : ∃ R, R = fallen d m ks := ⟨_, rfl⟩
  rw [← hR]
  have HR := Lib.hid hR
  have hl := okL_lens (okD.loose hk)
  have LL := Lib.hid (show d.nodes.length ≤ 1500000 ∧ d.ents.length ≤ 1500000 ∧ d.old.length ≤ 1500000 ∧ d.steps.length ≤ 1500000 from hl)
  have ME := Lib.hid (show d.ents.length ≤ maxLen by unfold maxLen; omega)
  clear bx br fz fr hWB hk hv hR hl
  go_enter Tryz.func15, Tryz.ntmps15
  go_wp2_with (fail)
  rw [← hW]
  clear hW hWs
  refine CC.out.mono ?_
  rintro e w1 ⟨u, rfl, hd, hb1⟩
  obtain ⟨aN1, aE1, aO1, aS1, cN1, cE1, cO1, cS1, rfl⟩ := own_slices hd
  have bx1 := BX.out.below hb1
  have y0 := bx1.at 0 _ rfl
  have y1 := bx1.at 1 _ rfl
  have y2 := bx1.at 2 _ rfl
  have y3 := bx1.at 3 _ rfl
  have y4 := bx1.at 4 _ rfl
  have y5 := bx1.at 5 _ rfl
  have fz1 := frozen_below FZ.out BX.out.1 hb1
  obtain ⟨X, hX, DK, hBX⟩ := desk_open bx1 fz1 (BR.out.below hb1) (frozen_below FR.out BR.out.1 hb1) hd (by have := HWs.out; omega) HWs.out.1 (by omega) hb1.size w.heap.size w (HB.out.trans (hb1.mono HB.out.size)) (Nat.le_refl _)
  have CK := Lib.hid (specDiskOk _ d X (okD.loose HK.out) DK.own.is)
  have DKH := Lib.hid DK
  have HBX := Lib.hid hBX
  have HX := Lib.hid hX
  clear hd hb1 bx1 x0 x1 x2 x3 x4 x5 DK hBX hX
  go_wp2_with (fail)
  rw [HX.out]
  clear HX y0 y1 y2 y3 y4 y5 fz1
  refine CK.out.mono ?_
  rintro e w2 ⟨rfl, hb2⟩
  have D2 := Lib.hid (DKH.out.below hb2)
  have B2 := Lib.hid (HBX.out.trans (hb2.mono HBX.out.size))
  clear hb2
  have x0 := D2.out.box.at 0 _ rfl
  have x1 := D2.out.box.at 1 _ rfl
  have x2 := D2.out.box.at 2 _ rfl
  have x3 := D2.out.box.at 3 _ rfl
  have x4 := D2.out.box.at 4 _ rfl
  have x5 := D2.out.box.at 5 _ rfl
  cases hdk : diskOk d with
  | false =>
    have HZ := Lib.hid (show R = d by rw [HR.out]; unfold fallen; rw [if_pos hdk])
    obtain ⟨u0, u1, u2, u3, u4, u5, ho⟩ := D2.out.out
    have q0 := ho.at 0 _ rfl
    have q1 := ho.at 1 _ rfl
    have q2 := ho.at 2 _ rfl
    have q3 := ho.at 3 _ rfl
    have q4 := ho.at 4 _ rfl
    have q5 := ho.at 5 _ rfl
    have fr2 := D2.out.fr
    obtain ⟨Z, hZ, hbz, hdz, hlz⟩ := six_ret ho D2.out.hr D2.out.own w.heap.size w B2.out (Nat.le_succ _)
    have z0 := hbz.at 0 _ rfl
    have z1 := hbz.at 1 _ rfl
    have z2 := hbz.at 2 _ rfl
    have z3 := hbz.at 3 _ rfl
    have z4 := hbz.at 4 _ rfl
    have z5 := hbz.at 5 _ rfl
    have HZ2 := Lib.hid hZ
    clear hbz ho hZ
    go_wp2
    rw [HZ2.out]
    refine bodyPost_ret (v := .agg #[.slice aN1 d.nodes.length cN1, .slice aE1 d.ents.length cE1, .slice aO1 d.old.length cO1, .slice aS1 d.steps.length cS1, .int .i64 d.room, .int .i64 d.next]) (by simp [results, Tryz.results15, go_sem, z0, z1, z2, z3, z4, z5]) rfl ⟨_, rfl, by rw [HZ.out]; exact hdz.base HB.out.size, by first | exact hlz | exact hlz.drew⟩
  | true =>
    obtain ⟨i0, hi, hz0, hz1, hz2⟩ := info_parts Tryz.infoEnt
    obtain ⟨l, hl, hle⟩ := right_list hdk m
    have HZ := Lib.hid (show R = clean (mid d l ks) by rw [HR.out, clean_mid]; unfold fallen listAt; rw [if_neg (by rw [hdk]; simp), hl]; rfl)
    have MO := Lib.hid (mid_ok (ks := ks) HK.out hdk hle (wf_ents HK.out hle))
    have LE := Lib.hid (ents_small hle).1
    have HU := Lib.hid (right_uns hdk)
    have HI := Lib.hid (ids_pos hdk)
    have CS := Lib.hid (specSteps aO1 aS1 d.old.length cO1 d.steps.length cS1 d.old d.steps m w2 (by have := LL.out; omega) (by have := LL.out; omega) (fun s hs => step_small (okD.loose HK.out) s hs) (desk_atO D2.out) (desk_atS D2.out))
    rw [hl] at CS
    clear hdk hl hle
    go_wp2_with (fail)
    refine CS.out.mono ?_
    rintro e w3 ⟨v3, he, ⟨q3, hown3⟩, hb3⟩
    obtain ⟨aL, cL, rfl, _, _⟩ := own_shape hown3
    obtain rfl : q3 = l.length := by have h := hown3.1; rw [show ((some l).getD []) = l from rfl, cellsE_len] at h; omega
    replace he : e = .returned (.tuple #[.slice aL l.length cL, .bool true]) := he
    replace hown3 : w3.ownsRow w2.heap.size 66 2 (.slice aL l.length cL) l.length (cellsE l) := hown3
    subst he
    clear x0 x1 x2 x3 x4 x5 CS
    have E2 := D2.out.below hb3
    have y0 := E2.box.at 0 _ rfl
    have y1 := E2.box.at 1 _ rfl
    have y2 := E2.box.at 2 _ rfl
    have y3 := E2.box.at 3 _ rfl
    have y4 := E2.box.at 4 _ rfl
    have y5 := E2.box.at 5 _ rfl
    have fz3 := E2.fz
    have zl3 := E2.box.1
    obtain ⟨X3, hX3, D3, B3, hs3⟩ : ∃ X3, w3.setCell ⟨w.heap.size, 2, none⟩ (.slice aL l.length cL) = X3 ∧ Desk W.heap.size X3 w.heap.size (w.heap.size + 1) (.slice aN1 d.nodes.length cN1) (.slice aE1 d.ents.length cE1) (.slice aL l.length cL) (.slice aS1 d.steps.length cS1) { d with old := l } ∧ Below w.heap.size w X3 ∧ X3.heap.size = w3.heap.size := ⟨_, rfl, D2.out.setO (es := l) hb3 ⟨_, hown3⟩, (B2.out.trans (hb3.mono B2.out.size)).setCell (p := ⟨w.heap.size, 2, none⟩) (Nat.le_refl _) _, by simp⟩
    have HX3 := Lib.hid hX3
    have D3 := Lib.hid D3
    have B3 := Lib.hid B3
    clear E2 hown3 hb3 hX3
    have own0 : (X3.alloc (.cells #[] 66)).ownsRow X3.heap.size 66 2 (.slice (some ⟨w3.heap.size, 0, none⟩) 0 0) 0 [] := by
      have h := World.ownsRow_made (base := X3.heap.size) (e := 66) (size := 2) X3 #[] 0 (Nat.le_refl _) (by decide) rfl
      rw [hs3] at h ⊢
      exact h
    have bo0 : X3.heap.size ≤ (X3.alloc (.cells #[] 66)).heap.size := by simp
    have C0 := Lib.hid (show Cells (X3.alloc (.cells #[] 66)) aL l.length 2 (cellsE l) from (desk_atO D3.out).below ((Below.refl _ _).alloc (Nat.le_refl _) _))
    have bn0 : 0 + l.length ≤ maxLen := by have := LE.out; unfold maxLen; omega
    have bm0 : (0 + l.length) * 24 ≤ 140737488355328 := by have := LE.out; omega
    have HS3 := Lib.hid hs3
    clear hs3
    go_wp2_with (first | (at_builtin; rw [HX3.out]; refine list_copy (by rfl) (.tmp 28) (.tmp 29) 30 (by rfl) X3.heap.size 66 i0 (.agg #[.string { data := #[] }, .int .i64 0]) 2 24 Tryz.underlying30 hi hz0 hz1 hz2 (by rfl) (by decide) _ 0 [] own0 bo0 aL l.length cL (cellsE l) C0.out (oneE l) bn0 bm0 (by rfl) (by rfl) ?_; intro v4 w4 hown4 hg4; have hb4 : Below X3.heap.size X3 w4 := ((Below.refl X3.heap.size X3).alloc (Nat.le_refl _) _).grown hg4 bo0 (fun k hk => by have := HS3.out; simp [Value.ownBlock] at hk; omega); rw [List.nil_append, Nat.zero_add] at hown4; obtain ⟨aU, cU, rfl, _, _⟩ := own_shape hown4; have b4 := D3.out.below hb4; have fz4 := b4.fz; have zl4 := b4.box.1; have u0 := b4.box.at 0 _ rfl; have u1 := b4.box.at 1 _ rfl; have u2 := b4.box.at 2 _ rfl; have u3 := b4.box.at 3 _ rfl; have u4 := b4.box.at 4 _ rfl; have u5 := b4.box.at 5 _ rfl; have D4 := Lib.hid (D3.out.setE (es := l) hb4 ⟨_, hown4⟩); have B4 := Lib.hid ((B3.out.trans (hb4.mono B3.out.size)).setCell (p := ⟨w.heap.size, 1, none⟩) (Nat.le_refl _) (.slice aU l.length cU)); clear b4 hown4 hg4 hb4 own0 bo0 C0 bn0 bm0 y0 y1 y2 y3 y4 y5 fz3 zl3) | fail)
    have e3 : (w4.setCell ⟨w.heap.size, 1, none⟩ (.slice aU l.length cU)).heap.size = w4.heap.size := by simp
    have h4 := (Below.refl (w4.setCell ⟨w.heap.size, 1, none⟩ (.slice aU l.length cU)).heap.size (w4.setCell ⟨w.heap.size, 1, none⟩ (.slice aU l.length cU))).alloc (Nat.le_refl _) (.cells #[] 9)
    have D5 := D4.out.setS0 (u := .slice (some ⟨(w4.setCell ⟨w.heap.size, 1, none⟩ (.slice aU l.length cU)).heap.size, 0, none⟩) 0 0) h4 (World.ownsRow_made _ _ _ (Nat.le_refl _) (by decide) rfl)
    have B5 := ((B4.out.trans (h4.mono B4.out.size)).setCell (p := ⟨w.heap.size, 3, none⟩) (Nat.le_refl _) (.slice (some ⟨w4.heap.size, 0, none⟩) 0 0))
    rw [e3, midK_start d l ks] at D5
    have e6 : ((w4.setCell ⟨w.heap.size, 1, none⟩ (.slice aU l.length cU)).alloc (.cells #[] 9)).setCell ⟨w.heap.size, 3, none⟩ (.slice (some ⟨w4.heap.size, 0, none⟩) 0 0) = ((w4.setCell ⟨w.heap.size, 1, none⟩ (.slice aU l.length cU)).setCell ⟨w.heap.size, 3, none⟩ (.slice (some ⟨w4.heap.size, 0, none⟩) 0 0)).alloc (.cells #[] 9) := World.setCell_alloc_past _ _ _ _ (by rw [e3]; exact zl4)
    have e7 := e6
    rw [e6] at D5 B5
    have D5 := Lib.hid D5
    have B5 := Lib.hid B5
    clear e3 h4 e6 e7 u0 u1 u2 u3 u4 u5 fz4 zl4
    obtain ⟨sS, hsS⟩ : ∃ s, s = Value.slice (some ⟨w4.heap.size, 0, none⟩) 0 0 := ⟨_, rfl⟩
    have HSS := Lib.hid hsS
    clear hsS
    go_loopw [9] (fun q wr => ∃ k : Nat, k ≤ d.nodes.length ∧ q = .int .i64 k ∧ Hid (Desk W.heap.size wr w.heap.size (w.heap.size + 1) (.slice aN1 d.nodes.length cN1) (.slice aU l.length cU) (.slice aL l.length cL) sS (midK d l ks k)) ∧ Hid (Below w.heap.size w wr) ) (fun q _ => d.nodes.length - (intOf q).toNat)
    case atStart =>
      exact ⟨0, Nat.zero_le _, rfl, Lib.hid (by rw [HSS.out]; exact D5.out), B5⟩
    case round =>
      obtain ⟨k, hk, rfl, hD, hB⟩ := hrel
      have x0 := hD.out.box.at 0 _ rfl
      by_cases hlt : k < d.nodes.length
      · obtain ⟨nd, hx⟩ : ∃ nd, d.nodes[k]? = some nd := ⟨_, List.getElem?_eq_getElem hlt⟩
        obtain ⟨i, t, j⟩ := nd
        have hu := HU.out _ (List.mem_of_getElem? hx)
        have hi0 := HI.out _ (List.mem_of_getElem? hx)
        obtain ⟨jn, hjn⟩ : ∃ jn : Nat, j = (jn : Int) := ⟨j.toNat, by have h : 0 ≤ j := hu.1; omega⟩
        subst hjn
        obtain ⟨iN, hiN⟩ : ∃ iN : Nat, i = (iN : Int) := ⟨i.toNat, by have h : 0 < i := hi0; omega⟩
        subst hiN
        have hjt : jn ≤ t.size := by have h : (jn : Int) ≤ (t.size : Int) := hu.2; omega
        have HX := Lib.hid hx
        have HX2 := Lib.hid (midK_at (l := l) (ks := ks) hx)
        have LK := Lib.hid (midK_len d l ks hk)
        have hts : t.size ≤ 1048576 := by
          have h1 := tot_each (d.nodes.map (·.2.1)) t (List.mem_map.2 ⟨_, List.mem_of_getElem? hx, rfl⟩)
          have h2 := used_le HK.out.2
          unfold usedOn at h2
          omega
        obtain ⟨gi, hgi, hge, hgl⟩ : ∃ g, aN1 = some ⟨g, 0, none⟩ ∧ W.heap.size ≤ g ∧ g < wr.heap.size := by
          have hr := hD.out.rowN
          rw [LK.out] at hr
          obtain ⟨a, c, he, _, h0⟩ := own_shape hr
          simp only [Value.slice.injEq] at he
          obtain ⟨rfl, _⟩ := he
          exact h0.resolve_left (by omega)
        subst hgi
        obtain ⟨gj, oj, hgj, _, hkl, c0, c1, c2⟩ := hD.out.atN.nth HX2.out
        obtain ⟨rfl, rfl⟩ : gi = gj ∧ 0 = oj := by simpa using hgj
        rw [Nat.zero_add] at c0 c1 c2
        have f1 := hD.out.rowN
        rw [LK.out] at f1
        have f1 := f1.frozenAt (k * 3 + 1)
        have i0 : (0 : Int) ≤ (k : Int) := by omega
        have i1 : (k : Int) < (d.nodes.length : Int) := by omega
        have hge2 : w.heap.size ≤ gi := Nat.le_trans HB.out.size hge
        have hk9 : k < 1500000 := by have := LL.out; omega
        clear hx hu hi0 hgj hkl
        by_cases hn0 : 0 < nK
        · have g0 : (0 : Int) < (nK : Int) := by omega
          obtain ⟨p, hp⟩ : ∃ p, p = iN % nK := ⟨_, rfl⟩
          have hpl : p < nK := by rw [hp]; exact Nat.mod_lt _ hn0
          obtain ⟨z, gk, ok, hz, hak, hgk, ck⟩ := atI_nth (KI.out.below hB.out) hpl
          subst hak
          have hrem : (iN : Int).tmod (nK : Int) = (p : Int) := by rw [hp]; rfl
          have hnz : ¬ (nK : Int) = 0 := by omega
          have p0 : (0 : Int) ≤ (p : Int) := by omega
          have p1 : (p : Int) < (nK : Int) := by omega
          obtain ⟨cc, hcc⟩ : ∃ c, c = clampN z (t.size - jn) := ⟨_, rfl⟩
          have hcl : cc ≤ t.size - jn := by rw [hcc]; exact clampN_le _ _
          obtain ⟨nn, hnn⟩ : ∃ n, n = jn + cc := ⟨_, rfl⟩
          have HLN := Lib.hid (show leftN ks ((iN : Int), t, (jn : Int)) = ((iN : Int), t.extract 0 nn, ((nn : Nat) : Int)) by
            have hm : moreOf ks ((iN : Int), t, (jn : Int)) = cc := by
              unfold moreOf keepFor
              rw [if_neg (by intro h; rw [h] at hz; cases hz)]
              have hkl : ks.length = nK := by have := KI.out.1; rw [List.length_map] at this; omega
              rw [hkl, show ((iN : Int), t, (jn : Int)).1.toNat % nK = p by rw [hp]; rfl, hz, hcc]
              rfl
            unfold leftN
            rw [hm, hnn]
            rfl)
          have hsub : (t.size : Int) - (jn : Int) = ((t.size - jn : Nat) : Int) := by omega
          have q1 : (0 : Int) ≤ (t.size : Int) - (jn : Int) := by omega
          have q2 : (t.size : Int) - (jn : Int) ≤ 9223372036854775807 := by omega
          have CB := Lib.hid (fun w1 => brought_same z (t.size - jn) w1)
          rw [← hcc] at CB
          have HP := Lib.hid (And.intro hp hcc)
          clear hp hcc hz
          go_wp2
          go_quiet ((go_at_call 36; first | rw [hsub] | skip; exact Calls.quiet_of_same (CB.out _)))
          have HB4 := Lib.hid (below_drewN (Below.refl wr.heap.size wr) nq)
          obtain ⟨w4, hw4⟩ : ∃ x, x = wr.drewN nq := ⟨_, rfl⟩
          rw [← hw4] at HB4 ⊢
          clear hw4
          have DD := Lib.hid (hD.out.below HB4.out)
          have BB := Lib.hid (hB.out.trans (HB4.out.mono hB.out.size))
          have x0 := DD.out.box.at 0 _ rfl
          have s1 : (jn : Int) + (cc : Int) = (nn : Int) := by omega
          replace c0 := (HB4.out.cell (p := ⟨gi, k * 3, none⟩) hgl).trans c0
          replace c1 := (HB4.out.cell (p := ⟨gi, k * 3 + 1, none⟩) hgl).trans c1
          replace c2 := (HB4.out.cell (p := ⟨gi, k * 3 + 2, none⟩) hgl).trans c2
          replace f1 := (HB4.out.frozen (p := ⟨gi, k * 3 + 1, none⟩) hgl).trans f1
          have s2 : (0 : Int) ≤ (nn : Int) := by omega
          have s3 : (nn : Int) ≤ (t.size : Int) := by omega
          have s4 : (nn : Int) ≤ 9223372036854775807 := by omega
          have HNN := Lib.hid hnn
          clear hnn hcl
          clear ck hsub q1 q2 hrem
          obtain ⟨Y, hY, D6, B6⟩ : ∃ Y, w4.setCell ⟨gi, k * 3 + 1, none⟩ (.string (t.extract 0 nn)) = Y ∧ Desk W.heap.size Y w.heap.size (w.heap.size + 1) (.slice (some ⟨gi, 0, none⟩) d.nodes.length cN1) (.slice aU l.length cU) (.slice aL l.length cL) sS { midK d l ks k with nodes := (midK d l ks k).nodes.set k ((iN : Int), t.extract 0 nn, (jn : Int)) } ∧ Below w.heap.size w Y := ⟨_, rfl, desk_node DD.out LK.out.symm rfl (cellsN_text _ _ _ _ HX2.out), BB.out.setCell hge2 _⟩
          obtain ⟨Z, hZ, D7, B7⟩ : ∃ Z, Y.setCell ⟨gi, k * 3 + 2, none⟩ (.int .i64 (nn : Nat)) = Z ∧ Desk W.heap.size Z w.heap.size (w.heap.size + 1) (.slice (some ⟨gi, 0, none⟩) d.nodes.length cN1) (.slice aU l.length cU) (.slice aL l.length cL) sS (midK d l ks (k + 1)) ∧ Below w.heap.size w Z := ⟨_, rfl, desk_node D6 (by show _ = ((midK d l ks k).nodes.set k _).length; rw [List.length_set]; exact LK.out.symm) rfl (by
            rw [cellsN_sure _ k ((iN : Int), t.extract 0 nn, (jn : Int)) _ (by show ((midK d l ks k).nodes.set k _)[k]? = _; rw [List.getElem?_set_self (by rw [LK.out]; exact hlt)])]
            congr 1
            show ((midK d l ks k).nodes.set k _).set k ((iN : Int), t.extract 0 nn, ((nn : Nat) : Int)) = _
            rw [List.set_set, ← midK_set HX.out]
            congr 1
            exact HLN.out.symm), B6.setCell hge2 _⟩
          have HY := Lib.hid hY
          have HZZ := Lib.hid hZ
          have D6 := Lib.hid D6
          have D7 := Lib.hid D7
          have B7 := Lib.hid B7
          clear hY hZ B6
          go_wp2
          go_region
          rw [HY.out]
          clear x0 c0 c1 c2
          have x0 := D6.out.box.at 0 _ rfl
          have f2 := desk_frozen D6.out (by show _ = ((midK d l ks k).nodes.set k _).length; rw [List.length_set]; exact LK.out.symm) (k * 3 + 2)
          obtain ⟨gy, oy, hgy, _, hky, d0, d1, d2⟩ := D6.out.atN.nth (show ((midK d l ks k).nodes.set k ((iN : Int), t.extract 0 nn, (jn : Int)))[k]? = _ from List.getElem?_set_self (by rw [LK.out]; exact hlt))
          obtain ⟨rfl, rfl⟩ : gi = gy ∧ 0 = oy := by simpa using hgy
          rw [Nat.zero_add] at d0 d1 d2
          go_wp2
          rw [HZZ.out]
          go_roundw
          case rel => exact ⟨k + 1, by omega, by go_num, Lib.hid (by first | exact D7.out | exact D7.out.below (Below.refl _ _).drew), Lib.hid (by first | exact B7.out | exact B7.out.drew)⟩
          case measure => simp [intOf]; omega
        · obtain rfl : nK = 0 := by omega
          have g0 : ¬ (0 : Int) < ((0 : Nat) : Int) := by omega
          have HLN := Lib.hid (show leftN ks ((iN : Int), t, (jn : Int)) = ((iN : Int), t.extract 0 jn, ((jn : Nat) : Int)) by
            have hkl : ks = [] := by have h := KI.out.1; rw [List.length_map] at h; exact List.length_eq_zero_iff.1 (by omega)
            have hm : moreOf ks ((iN : Int), t, (jn : Int)) = 0 := by
              unfold moreOf keepFor
              rw [if_pos hkl]
              unfold clampN
              simp
              omega
            unfold leftN
            rw [hm]
            rfl)
          have DD := hD
          have BB := hB
          have s2 : (0 : Int) ≤ (jn : Int) := by omega
          have s3 : (jn : Int) ≤ (t.size : Int) := by omega
          go_wp2
          obtain ⟨Y, hY, D6, B6⟩ : ∃ Y, wr.setCell ⟨gi, k * 3 + 1, none⟩ (.string (t.extract 0 jn)) = Y ∧ Desk W.heap.size Y w.heap.size (w.heap.size + 1) (.slice (some ⟨gi, 0, none⟩) d.nodes.length cN1) (.slice aU l.length cU) (.slice aL l.length cL) sS { midK d l ks k with nodes := (midK d l ks k).nodes.set k ((iN : Int), t.extract 0 jn, (jn : Int)) } ∧ Below w.heap.size w Y := ⟨_, rfl, desk_node DD.out LK.out.symm rfl (cellsN_text _ _ _ _ HX2.out), BB.out.setCell hge2 _⟩
          obtain ⟨Z, hZ, D7, B7⟩ : ∃ Z, Y.setCell ⟨gi, k * 3 + 2, none⟩ (.int .i64 (jn : Nat)) = Z ∧ Desk W.heap.size Z w.heap.size (w.heap.size + 1) (.slice (some ⟨gi, 0, none⟩) d.nodes.length cN1) (.slice aU l.length cU) (.slice aL l.length cL) sS (midK d l ks (k + 1)) ∧ Below w.heap.size w Z := ⟨_, rfl, desk_node D6 (by show _ = ((midK d l ks k).nodes.set k _).length; rw [List.length_set]; exact LK.out.symm) rfl (by
            rw [cellsN_sure _ k ((iN : Int), t.extract 0 jn, (jn : Int)) _ (by show ((midK d l ks k).nodes.set k _)[k]? = _; rw [List.getElem?_set_self (by rw [LK.out]; exact hlt)])]
            congr 1
            show ((midK d l ks k).nodes.set k _).set k ((iN : Int), t.extract 0 jn, ((jn : Nat) : Int)) = _
            rw [List.set_set, ← midK_set HX.out]
            congr 1
            exact HLN.out.symm), B6.setCell hge2 _⟩
          have HY := Lib.hid hY
          have HZZ := Lib.hid hZ
          have D6 := Lib.hid D6
          have D7 := Lib.hid D7
          have B7 := Lib.hid B7
          clear hY hZ B6
          go_wp2
          go_region
          rw [HY.out]
          clear x0 c0 c1 c2
          have x0 := D6.out.box.at 0 _ rfl
          have f2 := desk_frozen D6.out (by show _ = ((midK d l ks k).nodes.set k _).length; rw [List.length_set]; exact LK.out.symm) (k * 3 + 2)
          obtain ⟨gy, oy, hgy, _, hky, d0, d1, d2⟩ := D6.out.atN.nth (show ((midK d l ks k).nodes.set k ((iN : Int), t.extract 0 jn, (jn : Int)))[k]? = _ from List.getElem?_set_self (by rw [LK.out]; exact hlt))
          obtain ⟨rfl, rfl⟩ : gi = gy ∧ 0 = oy := by simpa using hgy
          rw [Nat.zero_add] at d0 d1 d2
          go_wp2
          rw [HZZ.out]
          go_roundw
          case rel => exact ⟨k + 1, by omega, by go_num, Lib.hid (by first | exact D7.out | exact D7.out.below (Below.refl _ _).drew), Lib.hid (by first | exact B7.out | exact B7.out.drew)⟩
          case measure => simp [intOf]; omega
      · obtain rfl : k = d.nodes.length := by omega
        have i1 : ¬ (d.nodes.length : Int) < (d.nodes.length : Int) := by omega
        rw [midK_end] at hD
        have D5 := hD
        have B5 := hB
        have e0 := D5.out.box.at 0 _ rfl
        have e1 := D5.out.box.at 1 _ rfl
        have e2 := D5.out.box.at 2 _ rfl
        have e3 := D5.out.box.at 3 _ rfl
        have e4 := D5.out.box.at 4 _ rfl
        have e5 := D5.out.box.at 5 _ rfl
        clear x0 hlt hk
        go_wp2_with (fail)
        refine (specClean W.heap.size _ (mid d l ks) _ D5.out.size MO.out D5.out.own).mono ?_
        rintro e w7 ⟨u7, rfl, hd7, hb7⟩
        obtain ⟨aN7, aE7, aO7, aS7, cN7, cE7, cO7, cS7, rfl⟩ := own_slices hd7
        have D7 := D5.out.below hb7
        have B7 := B5.out.trans (hb7.mono B5.out.size)
        obtain ⟨u0, u1, u2, u3, u4, u5, ho⟩ := D7.out
        have q0 := ho.at 0 _ rfl
        have q1 := ho.at 1 _ rfl
        have q2 := ho.at 2 _ rfl
        have q3 := ho.at 3 _ rfl
        have q4 := ho.at 4 _ rfl
        have q5 := ho.at 5 _ rfl
        have fr2 := D7.fr
        obtain ⟨Z, hZ, hbz, hdz, hlz⟩ := six_ret ho D7.hr hd7 w.heap.size w B7 (Nat.le_succ _)
        have z0 := hbz.at 0 _ rfl
        have z1 := hbz.at 1 _ rfl
        have z2 := hbz.at 2 _ rfl
        have z3 := hbz.at 3 _ rfl
        have z4 := hbz.at 4 _ rfl
        have z5 := hbz.at 5 _ rfl
        have HZ2 := Lib.hid hZ
        clear hbz ho hZ e0 e1 e2 e3 e4 e5 hd7 hb7 D7 B7
        go_wp2
        rw [HZ2.out]
        refine bodyPost_ret (v := .agg #[.slice aN7 (clean (mid d l ks)).nodes.length cN7, .slice aE7 (clean (mid d l ks)).ents.length cE7, .slice aO7 (clean (mid d l ks)).old.length cO7, .slice aS7 (clean (mid d l ks)).steps.length cS7, .int .i64 (clean (mid d l ks)).room, .int .i64 (clean (mid d l ks)).next]) (by simp [results, Tryz.results15, go_sem, z0, z1, z2, z3, z4, z5]) rfl ⟨_, rfl, by rw [HZ.out]; exact hdz.base HB.out.size, hlz⟩

end Go.Proofs.YtkibddcjogfklaaGreatDoor.fall

namespace Go.Proofs.YtkibddcjogfklaaGreatDoor.fall
open Go.RowKit Go.Maps Go.WideMaps
open kit strs recs disk deed kd ik

theorem brought_impl (n : Int) (m : Nat) (w : World) :
    Calls Tryz.prog 80 #[.int .i64 n, .int .i64 0, .int .i64 m] w fun e w' => e = .returned (.int .i64 (clampN n m : Nat)) ∧ Below w.heap.size w w' :=
  (implBrought n m w).mono fun _ _ ⟨h1, h2⟩ => ⟨h1, h2 ▸ Below.refl _ _⟩
theorem beq_dec (i j : Int) : (i == j) = decide (i = j) := by
  by_cases h : i = j
  · simp [h]
  · simp [h]
set_option maxHeartbeats 400000 in
theorem standC (t : ByteArray) (i id : Int) (gB : Nat) (w : World) (hc : w.cell? ⟨gB, 0, none⟩ = some (.int .i64 id)) :
    Calls Tryz.prog 79 #[.agg #[.string t, .int .i64 i], .pointer (some ⟨gB, 0, none⟩)] w fun e w' => e = .returned (.bool (decide (i = id))) ∧ Below w.heap.size w w' := by
  have hn : Below w.heap.size w (w.alloc (.cells #[.string t, .int .i64 i] 66)) := (Below.refl _ _).alloc (Nat.le_refl _) _
  have hc2 := (hn.cell (p := ⟨gB, 0, none⟩) (World.block_lt_of_cell? w _ hc)).trans hc
  have HN := Lib.hid hn
  clear hn hc
  go_enter Tryz.func79, Tryz.ntmps79
  go_wp2
  go_ret
  exact ⟨by rw [← beq_dec]; rfl, HN.out⟩
set_option maxHeartbeats 800000 in
theorem indexS (a : Option Addr) (c n gB : Nat) (xs : List Ent) (id : Int) (w : World) (hm : n ≤ 100000000) (ha : AtE w a n xs) (hc : w.cell? ⟨gB, 0, none⟩ = some (.int .i64 id)) :
    Calls Tryz.prog 91 #[.slice a n c, .func (.func 79) #[] #[.pointer (some ⟨gB, 0, none⟩)]] w fun e w' => e = .returned (.int .i64 (ixI (ixOf (fun x : Ent => decide (x.2 = id)) xs))) ∧ Below w.heap.size w w' := by
  have HA := Lib.hid ha
  have HC := Lib.hid hc
  clear ha hc
  go_enter Tryz.func91, Tryz.ntmps91
  go_wp2
  go_loopw [5, 8] (fun _ q wr => ∃ k : Nat, k ≤ n ∧ q = .int .i64 k ∧ Hid (ixOf (fun x : Ent => decide (x.2 = id)) xs = (ixOf (fun x : Ent => decide (x.2 = id)) (xs.drop k)).map (· + k)) ∧ Below w.heap.size w wr) (fun _ q _ => n - (intOf q).toNat)
  case atStart => exact ⟨0, Nat.zero_le _, rfl, Lib.hid (by simp), Below.refl _ _⟩
  case round =>
    obtain ⟨k, hk, rfl, hf, hbl⟩ := hrel
    by_cases hlt : k < n
    · obtain ⟨t, i, g, o, hx, rfl, hg, c1, c2⟩ := (HA.out.below hbl).get hlt
      have i0 : (0 : Int) ≤ (k : Int) := by omega
      have i1 : (k : Int) < (n : Int) := by omega
      have CS := Lib.hid (standC t i id gB wr ((hbl.cell (p := ⟨gB, 0, none⟩) (World.block_lt_of_cell? w _ HC.out)).trans HC.out))
      have HBL := Lib.hid hbl
      clear hbl
      cases e : (decide (i = id)) with
      | true =>
        have HE := Lib.hid (show ixI (ixOf (fun x : Ent => decide (x.2 = id)) xs) = (k : Int) by rw [hf.out, ixOf_yes hx (show (fun x : Ent => decide (x.2 = id)) (t, i) = true from e)]; simp [ixI])
        rw [e] at CS
        clear hx e hf
        go_wp2_with (go_at_call 79; refine CS.out.mono ?_; rintro e w1 ⟨rfl, hb1⟩)
        go_ret
        exact ⟨by rw [HE.out]; rfl, HBL.out.trans (hb1.mono HBL.out.size)⟩
      | false =>
        have HE := Lib.hid (show ixOf (fun x : Ent => decide (x.2 = id)) xs = (ixOf (fun x : Ent => decide (x.2 = id)) (xs.drop (k + 1))).map (· + (k + 1)) by
          rw [hf.out, ixOf_no hx (show (fun x : Ent => decide (x.2 = id)) (t, i) = false from e), Option.map_map]
          congr 1
          funext y
          simp
          omega)
        rw [e] at CS
        clear hx e hf
        go_wp2_with (go_at_call 79; refine CS.out.mono ?_; rintro e w1 ⟨rfl, hb1⟩)
        go_roundw
        case rel => exact ⟨k + 1, by omega, by go_num, HE, HBL.out.trans (hb1.mono HBL.out.size)⟩
        case measure => simp [intOf]; omega
    · obtain rfl : k = n := by omega
      have HE := Lib.hid (show ixI (ixOf (fun x : Ent => decide (x.2 = id)) xs) = -1 by rw [hf.out, drop_end HA.out.len]; rfl)
      go_wp2
      go_ret
      exact ⟨by rw [HE.out]; rfl, hbl⟩
theorem ix_any {α : Type} (p : α → Bool) : ∀ xs : List α, (ixOf p xs).isSome = xs.any p
  | [] => rfl
  | x :: r => by
    unfold ixOf
    rw [List.any_cons, ← ix_any p r]
    cases p x <;> simp
set_option maxHeartbeats 800000 in
theorem implStands (a : Option Addr) (c n : Nat) (xs : List Ent) (id : Int) (w : World) (hm : n ≤ 100000000) (ha : AtE w a n xs) :
    Calls Tryz.prog 69 #[.slice a n c, .int .i64 id] w fun e w' => e = .returned (.bool (xs.any fun x => decide (x.2 = id))) ∧ Below w.heap.size w w' := by
  obtain ⟨W, hW⟩ : ∃ W, W = w.alloc (.cells #[.int .i64 id] 3) := ⟨_, rfl⟩
  have hWB : Below w.heap.size w W := by rw [hW]; exact (Below.refl _ _).alloc (Nat.le_refl _) _
  have hc : W.cell? ⟨w.heap.size, 0, none⟩ = some (.int .i64 id) := by rw [hW]; simp
  have CI := Lib.hid (indexS a c n w.heap.size xs id W hm (ha.below hWB) hc)
  have HB := Lib.hid hWB
  obtain ⟨r, hr⟩ : ∃ r, r = ixOf (fun x : Ent => decide (x.2 = id)) xs := ⟨_, rfl⟩
  have HR := Lib.hid (show (xs.any fun x => decide (x.2 = id)) = r.isSome by rw [hr, ix_any])
  rw [← hr] at CI
  obtain ⟨q, hq⟩ : ∃ q, q = (xs.any fun x => decide (x.2 = id)) := ⟨_, rfl⟩
  rw [← hq] at HR ⊢
  have HW2 := Lib.hid hW
  clear hWB hc ha hr hq hW
  have CC : Calls Tryz.prog 78 #[.slice a n c, .func (.func 79) #[] #[.pointer (some ⟨w.heap.size, 0, none⟩)]] W fun e w' => e = .returned (.bool q) ∧ Below W.heap.size W w' := by
    cases r with
    | none =>
      rw [show ixI none = -1 from rfl] at CI
      have HF := Lib.hid (show q = false from HR.out)
      clear HR
      go_enter Tryz.func78, Tryz.ntmps78
      go_wp2_with (fail)
      refine CI.out.mono ?_
      rintro e w1 ⟨rfl, hb1⟩
      go_wp2
      go_ret
      exact ⟨by rw [HF.out]; rfl, hb1⟩
    | some r =>
      rw [show ixI (some r) = (r : Int) from rfl] at CI
      have HF := Lib.hid (show q = true from HR.out)
      have r0 : (0 : Int) ≤ (r : Int) := by omega
      clear HR
      go_enter Tryz.func78, Tryz.ntmps78
      go_wp2_with (fail)
      refine CI.out.mono ?_
      rintro e w1 ⟨rfl, hb1⟩
      go_wp2
      go_ret
      exact ⟨by rw [HF.out]; rfl, hb1⟩
  have HC := Lib.hid CC
  clear CC CI HR
  go_enter Tryz.func69, Tryz.ntmps69
  go_wp2_with (fail)
  rw [← HW2.out]
  refine HC.out.mono ?_
  rintro e w1 ⟨rfl, hb1⟩
  go_wp2
  go_ret
  exact ⟨rfl, HB.out.trans (hb1.mono HB.out.size)⟩

set_option maxHeartbeats 400000 in
theorem implKeep (aK : Option Addr) (nK cK : Nat) (ks : List Int) (iN : Nat) (w : World) (hn : nK ≤ 1048576) (hK : AtI w aK nK ks) :
    Calls Tryz.prog 81 #[.slice aK nK cK, .int .i64 (iN : Int)] w fun e w' => e = .returned (.int .i64 (keepFor ks (iN : Int))) ∧ Below w.heap.size w w' := by
  have hkl : ks.length = nK := by have := hK.1; rw [List.length_map] at this; omega
  by_cases hn0 : 0 < nK
  · obtain ⟨p, hp⟩ : ∃ p, p = iN % nK := ⟨_, rfl⟩
    have hpl : p < nK := by rw [hp]; exact Nat.mod_lt _ hn0
    obtain ⟨z, gk, ok, hz, hak, hgk, ck⟩ := atI_nth hK hpl
    subst hak
    have hrem : (iN : Int).tmod (nK : Int) = (p : Int) := by rw [hp]; rfl
    have hnz : ¬ (nK : Int) = 0 := by omega
    have hnb : ((nK : Int) == 0) = false := by simpa using hnz
    have p0 : (0 : Int) ≤ (p : Int) := by omega
    have p1 : (p : Int) < (nK : Int) := by omega
    have HF := Lib.hid (show keepFor ks (iN : Int) = z by
      unfold keepFor
      rw [if_neg (by intro h; rw [h] at hz; cases hz), hkl, show (iN : Int).toNat % nK = p by rw [hp]; rfl, hz]
      rfl)
    obtain ⟨y, hy⟩ : ∃ y, y = keepFor ks (iN : Int) := ⟨_, rfl⟩
    rw [← hy] at HF ⊢
    clear hz hK hp hkl hy
    go_enter Tryz.func81, Tryz.ntmps81
    go_wp2
    go_ret
    exact ⟨by rw [HF.out]; rfl, Below.refl _ _⟩
  · obtain rfl : nK = 0 := by omega
    have HF := Lib.hid (show keepFor ks (iN : Int) = 0 by unfold keepFor; rw [if_pos (List.length_eq_zero_iff.1 hkl)])
    obtain ⟨y, hy⟩ : ∃ y, y = keepFor ks (iN : Int) := ⟨_, rfl⟩
    rw [← hy] at HF ⊢
    clear hK hkl hy
    go_enter Tryz.func81, Tryz.ntmps81
    go_wp2
    go_ret
    exact ⟨by rw [HF.out]; rfl, Below.refl _ _⟩

set_option maxHeartbeats 2000000 in
set_option maxRecDepth 100000 in
theorem implNodeLeft (aK : Option Addr) (nK cK : Nat) (ks : List Int) (iN jn : Nat) (t : ByteArray) (w : World) (hn : nK ≤ 1048576) (ht : t.size ≤ 1048576) (hj : jn ≤ t.size) (hK : AtI w aK nK ks) :
    Calls Tryz.prog 70 #[.agg #[.int .i64 (iN : Int), .string t, .int .i64 (jn : Int)], .slice aK nK cK] w fun e w' => e = .returned (.agg #[.int .i64 (iN : Int), .string (leftN ks ((iN : Int), t, (jn : Int))).2.1, .int .i64 (leftN ks ((iN : Int), t, (jn : Int))).2.2]) ∧ Below w.heap.size w w' := by
  have hWB0 : Below w.heap.size w (w.alloc (.cells #[.int .i64 (iN : Int), .string t, .int .i64 (jn : Int)] 41)) := (Below.refl _ _).alloc (Nat.le_refl _) _
  obtain ⟨W, hW⟩ : ∃ W, W = (w.alloc (.cells #[.int .i64 (iN : Int), .string t, .int .i64 (jn : Int)] 41)).alloc (.cells #[.int .i64 0, .string { data := #[] }, .int .i64 0] 41) := ⟨_, rfl⟩
  have hWB : Below w.heap.size w W := by rw [hW]; exact hWB0.alloc hWB0.size _
  have hWs : W.heap.size = w.heap.size + 2 := by rw [hW]; simp
  have x0 : W.cell? ⟨w.heap.size, 0, none⟩ = some (.int .i64 (iN : Int)) := by rw [hW]; simp
  have x1 : W.cell? ⟨w.heap.size, 1, none⟩ = some (.string t) := by rw [hW]; simp
  have x2 : W.cell? ⟨w.heap.size, 2, none⟩ = some (.int .i64 (jn : Int)) := by rw [hW]; simp
  have r0 : W.cell? ⟨w.heap.size + 1, 0, none⟩ = some (.int .i64 0) := by rw [hW]; simp
  have r1 : W.cell? ⟨w.heap.size + 1, 1, none⟩ = some (.string { data := #[] }) := by rw [hW]; simp
  have r2 : W.cell? ⟨w.heap.size + 1, 2, none⟩ = some (.int .i64 0) := by rw [hW]; simp
  have g1 : ∀ j, W.frozen? ⟨w.heap.size, j, none⟩ = false := fun j => by rw [hW]; simp
  have g2 : ∀ j, W.frozen? ⟨w.heap.size + 1, j, none⟩ = false := fun j => by rw [hW]; simp
  obtain ⟨y, hy⟩ : ∃ y, y = keepFor ks (iN : Int) := ⟨_, rfl⟩
  obtain ⟨cc, hcc⟩ : ∃ c, c = clampN y (t.size - jn) := ⟨_, rfl⟩
  have hcl : cc ≤ t.size - jn := by rw [hcc]; exact clampN_le _ _
  obtain ⟨nn, hnn⟩ : ∃ n, n = jn + cc := ⟨_, rfl⟩
  obtain ⟨t2, ht2⟩ : ∃ t2, t2 = t.extract 0 nn := ⟨_, rfl⟩
  have hz2 : t2.size = nn := by rw [ht2, ByteArray.size_extract]; omega
  have hm : leftN ks ((iN : Int), t, (jn : Int)) = ((iN : Int), t2, (nn : Int)) := by
    have h : moreOf ks ((iN : Int), t, (jn : Int)) = cc := by
      unfold moreOf
      rw [hcc, hy]
      rfl
    unfold leftN
    rw [h, ht2, hnn]
    rfl
  rw [hm]
  have CK := Lib.hid (fun (x : Later W) => implKeep aK nK cK ks iN x.val hn ((hK.below hWB).below x.2))
  rw [← hy] at CK
  have CB := Lib.hid (fun (x : Later W) => brought_impl y (t.size - jn) x.val)
  rw [← hcc] at CB
  have hsub : (t.size : Int) - (jn : Int) = ((t.size - jn : Nat) : Int) := by omega
  have q1 : (0 : Int) ≤ (t.size : Int) - (jn : Int) := by omega
  have q2 : (t.size : Int) - (jn : Int) ≤ 9223372036854775807 := by omega
  have HB := Lib.hid hWB
  have HW := Lib.hid hW
  have hs1 : (jn : Int) + (cc : Int) = (nn : Int) := by omega
  have hs2 : (0 : Int) ≤ (nn : Int) := by omega
  have hs3 : (nn : Int) ≤ (t.size : Int) := by omega
  have hs4 : (nn : Int) ≤ 9223372036854775807 := by omega
  have HT := Lib.hid ht2
  have HS := Lib.hid (And.intro hs1 (And.intro hs2 (And.intro hs3 hs4)))
  have X := Lib.hid (And.intro x0 (And.intro x1 (And.intro x2 (And.intro r0 (And.intro r1 r2)))))
  have G := Lib.hid (And.intro g1 g2)
  have HZ2 := Lib.hid hz2
  have wl : w.heap.size < W.heap.size := by omega
  have wl2 : w.heap.size + 1 < W.heap.size := by omega
  clear hWB0 hWB hK hm hcc hy hnn ht2 hcl hs1 hs2 hs3 hs4 hz2 g1 g2 hWs
  go_enter Tryz.func70, Tryz.ntmps70
  go_wp2
  rw [← HW.out]
  clear hW
  have y0 := Later.cell X.out.1 wl
  have y1 := Later.cell X.out.2.1 wl
  have y2 := Later.cell X.out.2.2.1 wl
  refine wp_region_later (by kernel_rfl) (by kernel_rfl) ?_
  repeat (first | go_big_quiet_skip | (go_big_quiet_want; go_big_quiet_op; first | go_big_quiet_on | (apply Exists.intro; refine ⟨fun x => ?_, ?_⟩; (first | (go_at_call 81; exact Calls.later (CK.out x)) | (go_at_call 80; first | rw [hsub] | skip; exact Calls.later (CB.out x))); go_big_quiet_on)))
  refine wpQuiet_nil ?_
  rintro w4 ⟨x4, hx4⟩
  have BD : Below W.heap.size W w4 := hx4 ▸ x4.2
  clear hx4 x4 CK CB y0 y1 y2
  all_goals
    have BD2 := Lib.hid BD
    have x0 := (BD.cell (p := ⟨w.heap.size, 0, none⟩) wl).trans X.out.1
    have x1 := (BD.cell (p := ⟨w.heap.size, 1, none⟩) wl).trans X.out.2.1
    have x2 := (BD.cell (p := ⟨w.heap.size, 2, none⟩) wl).trans X.out.2.2.1
    have r0 := (BD.cell (p := ⟨w.heap.size + 1, 0, none⟩) wl2).trans X.out.2.2.2.1
    have r1 := (BD.cell (p := ⟨w.heap.size + 1, 1, none⟩) wl2).trans X.out.2.2.2.2.1
    have r2 := (BD.cell (p := ⟨w.heap.size + 1, 2, none⟩) wl2).trans X.out.2.2.2.2.2
    have f1 := (BD.frozen (p := ⟨w.heap.size, 1, none⟩) wl).trans (G.out.1 1)
    have f2 := (BD.frozen (p := ⟨w.heap.size, 2, none⟩) wl).trans (G.out.1 2)
    have e0 := (BD.frozen (p := ⟨w.heap.size + 1, 0, none⟩) wl2).trans (G.out.2 0)
    have e1 := (BD.frozen (p := ⟨w.heap.size + 1, 1, none⟩) wl2).trans (G.out.2 1)
    have e2 := (BD.frozen (p := ⟨w.heap.size + 1, 2, none⟩) wl2).trans (G.out.2 2)
    obtain ⟨hs1, hs2, hs3, hs4⟩ := HS.out
    have ht2 := HT.out.symm
    have hz2 := HZ2.out
    clear BD hsub q1 q2
    go_wp2
    refine bodyPost_ret (v := .agg #[.int .i64 (iN : Int), .string t2, .int .i64 (nn : Int)]) (by simp [results, Tryz.results70, go_sem, r0, r1, r2]) rfl ⟨rfl, ?_⟩
    iterate 5 refine Below.setCell ?_ (by first | (simp; done) | (simp; omega)) _
    exact HB.out.trans (BD2.out.mono HB.out.size)

end Go.Proofs.YtkibddcjogfklaaGreatDoor.fall

namespace Go.Proofs.YtkibddcjogfklaaGreatDoor.fall
open Go.RowKit Go.Maps Go.WideMaps
open kit strs recs disk deed kd ik

theorem run_copyN {P : Program} (w : World) (dT sT ty elem : TypeId) (b o dLen dCap : Nat) (a : Addr) (sLen sCap size : Nat) (cs : List Value)
    (hu : P.underlying dT = some (.slice elem)) (hs : (P.info? elem).map (·.size) = some size) (hn : cs.length = Nat.min sLen dLen * size)
    (hsrc : ∀ j v, cs[j]? = some v → w.cell? (a.add j) = some v) (hc : ∀ j, j < cs.length → (w.cell? ⟨b, o + j, none⟩).isSome = true) (hf : ∀ j, j < cs.length → w.frozen? ⟨b, o + j, none⟩ = false) (h1 : ∀ v ∈ cs, v.oneCell' = true) :
    (Builtin.copy_ #[dT, sT] ty #[.slice (some ⟨b, o, none⟩) dLen dCap, .slice (some a) sLen sCap]).run P w = .ok (goInt (Nat.min sLen dLen)) (w.setCells b o cs) := by
  have hl := run_loadCells_list (P := P) w a cs hsrc
  have hst := run_storeCells_cells (P := P) b o cs 0 w (by simpa using hc) (by simpa using hf) h1
  cases hq : P.info? elem with
  | none => simp [hq] at hs
  | some i =>
    have hi : i.size = size := by simpa [hq] using hs
    simp [Builtin.copy_, run_underlying hu, Builtin.lenOf, Builtin.firstCells, sizeOf, typeInfo, hq, hi, ← hn, hl, hst]
theorem run_copy0 {P : Program} (w : World) (dT sT ty elem : TypeId) (d a : Option Addr) (dLen dCap sLen sCap size : Nat) (hu : P.underlying dT = some (.slice elem)) (hs : (P.info? elem).map (·.size) = some size) (hn : Nat.min sLen dLen = 0) :
    (Builtin.copy_ #[dT, sT] ty #[.slice d dLen dCap, .slice a sLen sCap]).run P w = .ok (goInt 0) w := by
  cases hq : P.info? elem with
  | none => simp [hq] at hs
  | some i =>
    have hl : ∀ (x : Addr), (loadCells x 0).run P w = .ok #[] w := fun x => by simpa using run_loadCells_list (P := P) w x [] (by simp)
    cases d <;> cases a <;> simp [Builtin.copy_, run_underlying hu, Builtin.lenOf, Builtin.firstCells, sizeOf, typeInfo, hq, hn, storeCells, hl]
theorem wpList_copyN {P : Program} {w : World} {ops : Array Oper} {rest : List Oper} {o : Oper} {a : Act} {Q : Exit → Act → World → Prop} (hgd : o.guard = none) (d s : Operand) (dT sT : TypeId)
    (ho : o.op = .call { callee := .builtin .copy, args := #[d, s], argTypes := #[dT, sT] }) (elem : TypeId) (hu : P.underlying dT = some (.slice elem)) (size : Nat) (hsz : (P.info? elem).map (·.size) = some size)
    (g n dCap sCap : Nat) (sp : Option Addr) (hd : a.eval d = .slice (some ⟨g, 0, none⟩) n dCap) (hs : a.eval s = .slice sp n sCap) (cs : List Value) (hl : cs.length = n * size)
    (hsrc : n = 0 ∨ ∃ ad, sp = some ad ∧ ∀ j v, cs[j]? = some v → w.cell? (ad.add j) = some v) (hc : ∀ j, j < cs.length → (w.cell? ⟨g, j, none⟩).isSome = true) (hf : ∀ j, j < cs.length → w.frozen? ⟨g, j, none⟩ = false) (h1 : ∀ v ∈ cs, v.oneCell' = true)
    (h : wpList P ops Q rest (a.put o.dst (goInt n)) (w.setCells g 0 cs)) : wpList P ops Q (o :: rest) a w := by
  refine wpList_plain hgd fun K hK => ?_
  rcases hsrc with h0 | ⟨ad, rfl, hsrc⟩
  · subst h0
    obtain rfl : cs = [] := List.eq_nil_of_length_eq_zero (by omega)
    have hrun := run_copy0 (P := P) w dT sT o.type elem (some ⟨g, 0, none⟩) sp 0 dCap 0 sCap size hu hsz rfl
    unfold Oper.wp
    simp [execOp, ho, resolve, invoke, builtin, hd, hs, hrun, Result.andThen]
    exact hK _ _ h
  · have hm : Nat.min n n = n := Nat.min_self n
    have hrun := run_copyN (P := P) w dT sT o.type elem g 0 n dCap ad n sCap size cs hu hsz (by rw [hm]; exact hl) hsrc (by simpa using hc) (by simpa using hf) h1
    rw [hm] at hrun
    unfold Oper.wp
    simp [execOp, ho, resolve, invoke, builtin, hd, hs, hrun, Result.andThen]
    exact hK _ _ h
theorem src_of {w : World} {a : Option Addr} {n : Nat} {xs : List Nod} (h : AtN w a n xs) : n = 0 ∨ ∃ ad, a = some ad ∧ ∀ j v, (cellsN xs)[j]? = some v → w.cell? (ad.add j) = some v := by
  rcases (show Cells w a n 3 (cellsN xs) from h).2 with h0 | ⟨b, off, ha, _, hc⟩
  · exact .inl h0
  · refine .inr ⟨_, ha, fun j v hv => ?_⟩
    have hadd : (⟨b, off, none⟩ : Addr).add j = ⟨b, off + j, none⟩ := by unfold Addr.add; split <;> simp_all
    rw [hadd]
    exact hc j v hv
theorem setL_is : ∀ (vs xs : List Value) (k : Nat), k + vs.length ≤ xs.length → setL xs k vs = xs.take k ++ vs ++ xs.drop (k + vs.length)
  | [], xs, k, _ => by simp [setL]
  | v :: r, xs, k, h => by
    rw [List.length_cons] at h
    rw [setL, setL_is r _ (k + 1) (by rw [List.length_set]; omega), take_set_same (by omega), List.length_cons]
    rw [List.drop_set_of_lt (by omega)]
    simp [show k + 1 + r.length = k + (r.length + 1) by omega]
theorem setL_all {vs xs : List Value} (h : vs.length = xs.length) : setL xs 0 vs = vs := by
  rw [setL_is vs xs 0 (by omega), h]
  simp
theorem cells_n {xs : List Nod} {n : Nat} (h : xs.length = n) : (cellsN xs).length = n * 3 := by rw [cellsN_len, h]
theorem cells_in {B n c g : Nat} {e : TypeId} {w : World} {zs : List Value} {xs : List Nod} (h : w.ownsRow B e 3 (.slice (some ⟨g, 0, none⟩) n c) n zs) (hl : xs.length = n) : ∀ j, j < (cellsN xs).length → (w.cell? ⟨g, j, none⟩).isSome = true := fun j hj => by
  rw [cellsN_len, hl] at hj
  exact own_cell h hj
theorem cells_free {B n c g m : Nat} {e : TypeId} {w : World} {zs : List Value} (h : w.ownsRow B e 3 (.slice (some ⟨g, 0, none⟩) n c) n zs) : ∀ j, j < m → w.frozen? ⟨g, j, none⟩ = false := fun j _ => h.frozenAt j
theorem oneN : ∀ (xs : List Nod), ∀ v ∈ cellsN xs, v.oneCell' = true
  | [], v, hv => by cases hv
  | (i, s, j) :: r, v, hv => by
    rw [cellsN_cons] at hv
    rcases List.mem_cons.1 hv with rfl | hv
    · rfl
    rcases List.mem_cons.1 hv with rfl | hv
    · rfl
    rcases List.mem_cons.1 hv with rfl | hv
    · rfl
    · exact oneN r v hv

set_option maxHeartbeats 4000000 in
set_option maxRecDepth 100000 in
theorem implNodesLeft (aN aL aK : Option Addr) (n cN q cL nK cK : Nat) (xs : List Nod) (l : List Ent) (ks : List Int) (w : World) (hm : n ≤ 1048576) (hq : q ≤ 1048576) (hn : nK ≤ 1048576)
    (hr : ∀ nd ∈ xs, 0 ≤ nd.1 ∧ 0 ≤ nd.2.2 ∧ nd.2.2 ≤ (nd.2.1.size : Int) ∧ nd.2.1.size ≤ 1048576) (ha : AtN w aN n xs) (hl : AtE w aL q l) (hK : AtI w aK nK ks) :
    Calls Tryz.prog 50 #[.slice aN n cN, .slice aL q cL, .slice aK nK cK] w fun e w' => ∃ u v m, e = .returned u ∧ Cap u v ∧ w'.ownsRow w.heap.size 41 3 v m (cellsN ((xs.filter (stands l)).map (leftN ks))) ∧ Below w.heap.size w w' := by
  obtain ⟨i0, hi, hz0, hz1, hz2⟩ := info_parts Tryz.infoNod
  have hinf : (Tryz.prog.info? 41).map (·.size) = some 3 := by first | (rw [hi]; done) | (rw [hi]; simp [hz1])
  have HL := Lib.hid ha.len
  have HA := Lib.hid ha
  have HE := Lib.hid hl
  have HK := Lib.hid hK
  have HR := Lib.hid hr
  clear ha hl hK hr
  go_enter Tryz.func50, Tryz.ntmps50
  go_wp2_with (first
    | (refine wpList_make_full _ (by rfl) _ _ 29 (by rfl) w.heap.size 41 i0 (.agg #[.int .i64 0, .string { data := #[] }, .int .i64 0]) 3 Tryz.underlying29 hi hz0 hz1 .i64 .i64 _ _ n (by rfl) (by rfl) ?_ ?_ ?_ ?_ ?_ ?_; omega; omega; (rw [hz2]; omega); (unfold maxLen; omega); exact Nat.le_refl _; intro w1 hown1 hg1; have hb1 : Below w.heap.size w w1 := (Below.refl _ _).grown hg1 (Nat.le_refl _) (fun k hk => by cases hk); have hwz : w.heap.size < w1.heap.size := (own_block_ge hown1 _ rfl).2; have HO1 := Lib.hid hown1; have S0 := cells_n HL.out; have S1 := src_of (HA.out.below hb1); have S2 := cells_in HO1.out HL.out; have S3 := cells_free (m := (cellsN xs).length) HO1.out; clear hown1 hg1)
    | (refine wpList_copyN rfl (.tmp 14) (.tmp 15) 29 29 rfl 41 Tryz.underlying29 3 hinf w.heap.size n n cN aN (by rfl) (by rfl) (cellsN xs) S0 S1 S2 S3 (oneN xs) ?_))
  obtain ⟨hown, hgr⟩ := own_setCells (cellsN xs) 0 _ _ HO1.out
  rw [setL_all (by have h := HO1.out.1; rw [h, cellsN_len, HL.out])] at hown
  have hb2 := hb1.grown hgr (Nat.le_of_lt hwz) (fun k hk => by cases hk; exact Nat.le_refl _)
  obtain ⟨w2, hw2⟩ : ∃ w2, w2 = w1.setCells w.heap.size 0 (cellsN xs) := ⟨_, rfl⟩
  rw [← hw2] at hown hgr hb2 ⊢
  have HZ := Lib.hid (show w.heap.size < w2.heap.size from Nat.lt_of_lt_of_le hwz hgr.size)
  clear hw2 hgr hb1 hwz HO1 S0 S1 S2 S3
  go_loopw [8, 19] (fun vm vk wr => ∃ (k m : Nat) (ys : List Nod), k ≤ n ∧ m ≤ k ∧ vm = .int .i64 m ∧ vk = .int .i64 k ∧ Hid (ys.length = n ∧ ys.take m = ((xs.take k).filter (stands l)).map (leftN ks) ∧ m = (((xs.take k).filter (stands l)).map (leftN ks)).length ∧ ys.drop k = xs.drop k) ∧ wr.ownsRow w.heap.size 41 3 (.slice (some ⟨w.heap.size, 0, none⟩) n n) n (cellsN ys) ∧ Below w.heap.size w wr) (fun _ vk _ => n - (intOf vk).toNat)
  case atStart => exact ⟨0, 0, xs, Nat.zero_le _, Nat.le_refl _, rfl, rfl, Lib.hid ⟨HL.out, by simp, by simp, rfl⟩, hown, hb2⟩
  case round =>
    obtain ⟨k, m, ys, hk, hmk, rfl, rfl, hf, hown, hb⟩ := hrel
    by_cases hlt : k < n
    · obtain ⟨i, t, j, g2, o2, hx, ho, hg, c1, c2, c3⟩ := (show AtN wr (some ⟨w.heap.size, 0, none⟩) n ys from own_cells hown).get hlt
      simp only [Option.some.injEq, Addr.mk.injEq, and_true] at ho
      obtain ⟨rfl, rfl⟩ := ho
      simp only [Nat.zero_add] at c1 c2 c3
      obtain ⟨f1, f2, f3, f4⟩ := hf.out
      have hxx := (at_drop f4).symm.trans hx
      obtain ⟨r1, r2, r3, r4⟩ := HR.out _ (List.mem_of_getElem? hxx)
      obtain ⟨iN, hiN⟩ : ∃ iN : Nat, i = (iN : Int) := ⟨i.toNat, by have h : 0 ≤ i := r1; omega⟩
      subst hiN
      obtain ⟨jn, hjn⟩ : ∃ jn : Nat, j = (jn : Int) := ⟨j.toNat, by have h : 0 ≤ j := r2; omega⟩
      subst hjn
      have hjt : jn ≤ t.size := by have h : (jn : Int) ≤ (t.size : Int) := r3; omega
      have hts : t.size ≤ 1048576 := r4
      have m0 : (0 : Int) ≤ (m : Int) := by omega
      have m1 : (m : Int) < (n : Int) := by omega
      have k0 : (0 : Int) ≤ (k : Int) := by omega
      have k1 : (k : Int) < (n : Int) := by omega
      obtain ⟨W1, hW1⟩ : ∃ W1, W1 = wr.alloc (.cells #[.int .i64 (iN : Int), .string t, .int .i64 (jn : Int)] 41) := ⟨_, rfl⟩
      have hr1 : Below wr.heap.size wr W1 := by rw [hW1]; exact (Below.refl _ _).alloc (Nat.le_refl _) _
      have nb := show disk.Box W1 wr.heap.size [.int .i64 (iN : Int), .string t, .int .i64 (jn : Int)] from by rw [hW1]; exact Box.new _ _ _
      have hbW := hb.trans (hr1.mono hb.size)
      have HNB := Lib.hid nb
      have HB1 := Lib.hid hbW
      have HO2 := Lib.hid (own_below hown hr1)
      have HFN := Lib.hid (show ((xs.take (k + 1)).filter (stands l)).map (leftN ks) = ((xs.take k).filter (stands l)).map (leftN ks) ++ (if stands l ((iN : Int), t, (jn : Int)) = true then [leftN ks ((iN : Int), t, (jn : Int))] else []) by
        rw [List.take_add_one, hxx, List.filter_append, List.map_append]
        cases h : stands l ((iN : Int), t, (jn : Int)) <;> simp [h])
      have CS := Lib.hid (implStands aL cL q l (iN : Int) W1 (by omega) (HE.out.below hbW))
      obtain ⟨st, hst⟩ : ∃ st, st = stands l ((iN : Int), t, (jn : Int)) := ⟨_, rfl⟩
      rw [show (l.any fun x => decide (x.2 = (iN : Int))) = st from hst.symm] at CS
      rw [← hst] at HFN
      have CN := Lib.hid (fun (w1 : World) (h : Below W1.heap.size W1 w1) => implNodeLeft aK nK cK ks iN jn t w1 hn hts hjt ((HK.out.below hbW).below h))
      obtain ⟨t2, ht2⟩ : ∃ t2, t2 = (leftN ks ((iN : Int), t, (jn : Int))).2.1 := ⟨_, rfl⟩
      obtain ⟨j2, hj2⟩ : ∃ j2, j2 = (leftN ks ((iN : Int), t, (jn : Int))).2.2 := ⟨_, rfl⟩
      have hlf : leftN ks ((iN : Int), t, (jn : Int)) = ((iN : Int), t2, j2) := by rw [ht2, hj2]; rfl
      rw [← ht2, ← hj2] at CN
      rw [hlf] at HFN
      have HFS := Lib.hid hf.out
      have HW1 := Lib.hid hW1
      have wz : w.heap.size ≤ wr.heap.size := hb.size
      clear hx hxx hown hb hr1 nb hbW hf f1 f2 f3 f4 r1 r2 r3 r4 hst ht2 hj2 hlf hW1
      go_wp2_with (fail)
      rw [← HW1.out]
      refine CS.out.mono ?_
      rintro e w3 ⟨rfl, hb3⟩
      have HB3 := Lib.hid (HB1.out.trans (hb3.mono HB1.out.size))
      have HO3 := Lib.hid (own_below HO2.out hb3)
      have HX3 := Lib.hid hb3
      have n0 := (HNB.out.below hb3).at 0 _ rfl
      have n1 := (HNB.out.below hb3).at 1 _ rfl
      have n2 := (HNB.out.below hb3).at 2 _ rfl
      clear hb3 c1 c2 c3
      cases st with
      | false =>
        have HFN2 := Lib.hid (show ((xs.take (k + 1)).filter (stands l)).map (leftN ks) = ((xs.take k).filter (stands l)).map (leftN ks) by rw [HFN.out]; simp)
        go_wp2
        go_roundw
        case rel => exact ⟨k + 1, m, ys, by omega, by omega, rfl, by go_num, Lib.hid ⟨HFS.out.1, by rw [HFN2.out]; exact HFS.out.2.1, by rw [HFN2.out]; exact HFS.out.2.2.1, drop_next HFS.out.2.2.2⟩, HO3.out, HB3.out⟩
        case measure => simp [intOf]; omega
      | true =>
        go_wp2_with (fail)
        refine (CN.out w3 HX3.out).mono ?_
        rintro e w4 ⟨rfl, hb4⟩
        have HO4 := Lib.hid (own_below HO3.out hb4)
        have HB4 := Lib.hid (HB3.out.trans (hb4.mono HB3.out.size))
        have q0 := own_cell HO4.out (j := m * 3) (by omega)
        have q1 := own_cell HO4.out (j := m * 3 + 1) (by omega)
        have q2 := own_cell HO4.out (j := m * 3 + 2) (by omega)
        obtain ⟨y0, q0⟩ := Option.isSome_iff_exists.1 q0
        obtain ⟨y1, q1⟩ := Option.isSome_iff_exists.1 q1
        obtain ⟨y2, q2⟩ := Option.isSome_iff_exists.1 q2
        have z0 := HO4.out.frozenAt (m * 3)
        have z1 := HO4.out.frozenAt (m * 3 + 1)
        have z2 := HO4.out.frozenAt (m * 3 + 2)
        have hil : m < ys.length := by rw [HFS.out.1]; omega
        have o5 := Lib.hid (own_set3 HO4.out hil (iN : Int) t2 j2)
        have HFN2 := Lib.hid (show ((xs.take (k + 1)).filter (stands l)).map (leftN ks) = ((xs.take k).filter (stands l)).map (leftN ks) ++ [((iN : Int), t2, j2)] by rw [HFN.out]; simp)
        clear hb4 n0 n1 n2
        go_wp2
        go_roundw
        case rel =>
          refine ⟨k + 1, m + 1, ys.set m ((iN : Int), t2, j2), by omega, by omega, by go_num, by go_num, Lib.hid ⟨by rw [List.length_set]; exact HFS.out.1, ?_, ?_, ?_⟩, o5.out, ((HB4.out.setCell (Nat.le_refl _) _).setCell (Nat.le_refl _) _).setCell (Nat.le_refl _) _⟩
          · rw [take_set_same hil, HFS.out.2.1]; exact HFN2.out.symm
          · rw [HFN2.out, List.length_append, ← HFS.out.2.2.1]; rfl
          · rw [drop_set_ahead (by omega)]; exact drop_next HFS.out.2.2.2
        case measure => simp [intOf]; omega
    · obtain rfl : k = n := by omega
      have m0 : (0 : Int) ≤ (m : Int) := by omega
      have m1 : (m : Int) ≤ (k : Int) := by omega
      obtain ⟨f1, f2, f3, f4⟩ := hf.out
      have hend : xs.take k = xs := List.take_of_length_le (by rw [HL.out]; exact Nat.le_refl _)
      rw [hend] at f2
      have HS := Lib.hid (own_shrink hown hmk)
      have HFE := Lib.hid (show (cellsN ys).take (m * 3) = cellsN ((xs.filter (stands l)).map (leftN ks)) by rw [cellsN_take, f2])
      have HBX := Lib.hid hb
      clear hown hb hf f1 f2 f3 f4 hend hb2
      go_wp2
      go_ret
      exact ⟨_, .slice (some ⟨w.heap.size, 0, none⟩) m k, m, rfl, ⟨_, _, _, _, rfl, rfl⟩, by rw [← HFE.out]; exact HS.out, HBX.out⟩

end Go.Proofs.YtkibddcjogfklaaGreatDoor.fall

namespace Go.Proofs.YtkibddcjogfklaaGreatDoor.fall
open Go.RowKit Go.Maps Go.WideMaps
open kit strs recs disk deed kd ik

def UnderR (r : D) (w : World) (e : Ending) (w' : World) : Prop := ∃ u, e = .returned u ∧ OwnDiskW w.heap.size w' u r ∧ Below w.heap.size w w'
theorem diskW_setOther {B : Nat} {w : World} {v : Value} {d : D} {g j : Nat} {u : Value} (h : OwnDiskW B w v d) (hg : g < B) : OwnDiskW B (w.setCell ⟨g, j, none⟩ u) v d := by
  obtain ⟨sN, sE, sO, sS, sM, rfl, hc, hd⟩ := h
  exact ⟨sN, sE, sO, sS, sM, rfl, hc, disk_setOther hd hg⟩
theorem six_retW {B r : Nat} {w : World} {d : D} {u0 u1 u2 u3 u4 u5 c0 c1 c2 c3 c4 c5 : Value} (ho : Box w r [u0, u1, u2, u3, u4, u5]) (hr : r < B)
    (hd : OwnDiskW B w (.agg #[c0, c1, c2, c3, c4, c5]) d) (B0 : Nat) (w0 : World) (h0 : Below B0 w0 w) (hr0 : B0 ≤ r) :
    ∃ X, ((((((w.setCell ⟨r, 0, none⟩ c0).setCell ⟨r, 1, none⟩ c1).setCell ⟨r, 2, none⟩ c2).setCell ⟨r, 3, none⟩ c3).setCell ⟨r, 4, none⟩ c4).setCell ⟨r, 5, none⟩ c5) = X ∧ Box X r [c0, c1, c2, c3, c4, c5] ∧ OwnDiskW B X (.agg #[c0, c1, c2, c3, c4, c5]) d ∧ Below B0 w0 X := by
  refine ⟨_, rfl, box_six _ _ _ _ _ _ ho, ?_, below_six _ _ _ _ _ _ h0 hr0⟩
  iterate 6 refine diskW_setOther ?_ hr
  exact hd

set_option maxHeartbeats 4000000 in
set_option maxRecDepth 100000 in
theorem implLeft (v : Value) (d : D) (aL aK : Option Addr) (q cL nK cK : Nat) (l : List Ent) (ks : List Int) (w : World) (hk : okD d) (hd : diskOk d = true) (hq : q ≤ 1048576) (hn : nK ≤ 1048576) (hv : IsDisk w v d) (hl : AtE w aL q l) (hK : AtI w aK nK ks) :
    Calls Tryz.prog 23 #[v, .slice aL q cL, .slice aK nK cK] w (UnderR (under d l ks) w) := by
  have LL := okL_lens (okD.loose hk)
  obtain ⟨aN, aE, aO, aS, nN, cN, nE, cE, nO, cO, nS, cS, rfl, hN, hE, hO, hS⟩ := hv
  have lN := hN.len
  have hA1 : Below w.heap.size w (w.alloc (.cells #[.slice aN nN cN, .slice aE nE cE, .slice aO nO cO, .slice aS nS cS, .int .i64 d.room, .int .i64 d.next] 32)) := (Below.refl _ _).alloc (Nat.le_refl _) _
  obtain ⟨W, hW⟩ : ∃ W, W = (w.alloc (.cells #[.slice aN nN cN, .slice aE nE cE, .slice aO nO cO, .slice aS nS cS, .int .i64 d.room, .int .i64 d.next] 32)).alloc (.cells #[.slice none 0 0, .slice none 0 0, .slice none 0 0, .slice none 0 0, .int .i64 0, .int .i64 0] 32) := ⟨_, rfl⟩
  have hWB : Below w.heap.size w W := by rw [hW]; exact hA1.alloc hA1.size _
  have hWs : W.heap.size = w.heap.size + 2 := by rw [hW]; simp
  have bx : disk.Box W w.heap.size [.slice aN nN cN, .slice aE nE cE, .slice aO nO cO, .slice aS nS cS, .int .i64 d.room, .int .i64 d.next] := by rw [hW]; exact (Box.new w #[.slice aN nN cN, .slice aE nE cE, .slice aO nO cO, .slice aS nS cS, .int .i64 d.room, .int .i64 d.next] _).below ((Below.refl _ _).alloc (Nat.le_refl _) _)
  have br : disk.Box W (w.heap.size + 1) [.slice none 0 0, .slice none 0 0, .slice none 0 0, .slice none 0 0, .int .i64 0, .int .i64 0] := by
    have h := Box.new (w.alloc (.cells #[.slice aN nN cN, .slice aE nE cE, .slice aO nO cO, .slice aS nS cS, .int .i64 d.room, .int .i64 d.next] 32)) #[.slice none 0 0, .slice none 0 0, .slice none 0 0, .slice none 0 0, .int .i64 0, .int .i64 0] 32
    rw [hW]
    simpa using h
  have fr : ∀ j, W.frozen? ⟨w.heap.size + 1, j, none⟩ = false := fun j => by rw [hW]; simp
  have hrr : ∀ nd ∈ d.nodes, 0 ≤ nd.1 ∧ 0 ≤ nd.2.2 ∧ nd.2.2 ≤ (nd.2.1.size : Int) ∧ nd.2.1.size ≤ 1048576 := fun nd hnd => by
    have h1 := right_uns hd nd hnd
    have h2 := ids_pos hd nd hnd
    have h3 := tot_each (d.nodes.map (·.2.1)) nd.2.1 (List.mem_map.2 ⟨_, hnd, rfl⟩)
    have h4 := used_le hk.2
    unfold usedOn at h4
    exact ⟨by omega, h1.1, h1.2, by omega⟩
  have CN := Lib.hid (fun (w1 : World) (h : Below W.heap.size W w1) => implNodesLeft aN aL aK nN cN q cL nK cK d.nodes l ks w1 (by have h5 := hk.2; unfold bulk bulkN at h5; simp only [List.length_map] at h5; omega) hq hn hrr ((hN.below hWB).below h) ((hl.below hWB).below h) ((hK.below hWB).below h))
  have CE := Lib.hid (fun (w1 : World) (h : Below W.heap.size W w1) => cloneE aL cL q l w1 (by omega) ((hl.below hWB).below h))
  have BX := Lib.hid bx
  have BR := Lib.hid br
  have FR := Lib.hid fr
  have HB := Lib.hid hWB
  have HW := Lib.hid hW
  have HWs := Lib.hid hWs
  have BD := (Below.refl W.heap.size W).drew
  have x0 := bx.at 0 _ rfl
  have x4 := bx.at 4 _ rfl
  have x5 := bx.at 5 _ rfl
  clear hN hE hO hS hl hK hWB hWs bx br fr hrr hA1 hd
  go_enter Tryz.func23, Tryz.ntmps23
  go_wp2
  rw [← HW.out]
  clear hW
  have d0 := (BX.out.below BD).at 0 _ rfl
  have d4 := (BX.out.below BD).at 4 _ rfl
  have d5 := (BX.out.below BD).at 5 _ rfl
  go_region_held3 (fun w' => w'.cell? ⟨w.heap.size, 0, none⟩ = some (.slice aN nN cN) ∧ w'.cell? ⟨w.heap.size, 4, none⟩ = some (.int .i64 d.room) ∧ w'.cell? ⟨w.heap.size, 5, none⟩ = some (.int .i64 d.next)) (first | with_reducible exact ⟨x0, x4, x5⟩ | with_reducible exact ⟨d0, d4, d5⟩ | with_reducible exact ⟨y0, y4, y5⟩ | with_reducible exact ⟨z0, z4, z5⟩ | with_reducible exact ⟨t0, t4, t5⟩ | exact ⟨by simp [go_sem, t0], by simp [go_sem, t4], by simp [go_sem, t5]⟩) (first
    | (go_at_call 50; refine (CN.out _ BD).mono ?_; rintro e w3 ⟨u3, v3, q3, rfl, ⟨a3, n3, c3, d3, rfl, rfl⟩, ho3, hb3⟩; have B3 := Lib.hid (show Below W.heap.size W.drew w3 from hb3.mono (by show W.heap.size ≤ W.drew.heap.size; exact Nat.le_refl _)); have HO3 := Lib.hid ho3; have HX3 := Lib.hid hb3.size; have BD := BD.trans (hb3.mono BD.size); have y0 := (BX.out.below BD).at 0 _ rfl; have y4 := (BX.out.below BD).at 4 _ rfl; have y5 := (BX.out.below BD).at 5 _ rfl; clear ho3 hb3)
    | (go_at_call 51; have h4 := HO4; refine (CE.out _ BD).mono ?_; rintro e w5 ⟨u5, rfl, ⟨q5, ho5⟩, hb5⟩; obtain ⟨a5, c5, rfl, _, _⟩ := own_shape ho5; have B5 := Lib.hid hb5; have HO5 := Lib.hid ho5; have BD := BD.trans (hb5.mono BD.size); have t0 := (BX.out.below BD).at 0 _ rfl; have t4 := (BX.out.below BD).at 4 _ rfl; have t5 := (BX.out.below BD).at 5 _ rfl; have r0 := (BR.out.below BD).at 0 _ rfl; have r1 := (BR.out.below BD).at 1 _ rfl; have r2 := (BR.out.below BD).at 2 _ rfl; have r3 := (BR.out.below BD).at 3 _ rfl; have r4 := (BR.out.below BD).at 4 _ rfl; have r5 := (BR.out.below BD).at 5 _ rfl; have k0 := frozen_below FR.out BR.out.1 BD 0; have k1 := frozen_below FR.out BR.out.1 BD 1; have k2 := frozen_below FR.out BR.out.1 BD 2; have k3 := frozen_below FR.out BR.out.1 BD 3; have k4 := frozen_below FR.out BR.out.1 BD 4; have k5 := frozen_below FR.out BR.out.1 BD 5; clear ho5 hb5 h4)
    | (go_at_call 51; refine (CE.out _ BD).mono ?_; rintro e w4 ⟨u4, rfl, ⟨q4, ho4⟩, hb4⟩; obtain ⟨a4, c4, rfl, _, _⟩ := own_shape ho4; have B4 := Lib.hid hb4; have HO4 := Lib.hid ho4; have BD := BD.trans (hb4.mono BD.size); have z0 := (BX.out.below BD).at 0 _ rfl; have z4 := (BX.out.below BD).at 4 _ rfl; have z5 := (BX.out.below BD).at 5 _ rfl; clear ho4 hb4))
  all_goals
    have hz := HWs.out
    have N5 := own_below (own_below HO3.out B4.out) B5.out
    have E5 := own_below HO4.out B5.out
    have hB3 : W.heap.size ≤ w3.heap.size := B3.out.size
    have hB4 : w3.heap.size ≤ w4.heap.size := B4.out.size
    have HD := Lib.hid (show OwnDiskW W.heap.size w5 (.agg #[.slice a3 n3 c3, .slice a4 q4 c4, .slice a5 q5 c5, .slice none 0 0, .int .i64 d.room, .int .i64 d.next]) (under d l ks) from
      ⟨.slice a3 n3 c3, .slice a4 q4 c4, .slice a5 q5 c5, .slice none 0 0, .slice a3 n3 d3, rfl, ⟨_, _, _, _, rfl, rfl⟩, ⟨.slice a3 n3 d3, .slice a4 q4 c4, .slice a5 q5 c5, .slice none 0 0, q3, q4, q5, 0, rfl, own_base N5 (Nat.le_refl _), own_base E5 hB3, own_base HO5.out (Nat.le_trans hB3 hB4), World.ownsRow_nil _ _ _ _,
        off_of HO3.out HO4.out (Nat.le_refl _), off_of (own_below HO3.out B4.out) HO5.out (Nat.le_refl _), fun g h1 h2 => by simp [Value.ownBlock] at h2, off_of HO4.out HO5.out (Nat.le_refl _), fun g h1 h2 => by simp [Value.ownBlock] at h2, fun g h1 h2 => by simp [Value.ownBlock] at h2⟩⟩)
    obtain ⟨X, hX, hbX, hdX, hlX⟩ := six_retW (BR.out.below BD) (show w.heap.size + 1 < W.heap.size by omega) HD.out w.heap.size w (HB.out.trans (BD.mono HB.out.size)) (Nat.le_succ _)
    rw [hX]
    have p0 := hbX.at 0 _ rfl
    have p1 := hbX.at 1 _ rfl
    have p2 := hbX.at 2 _ rfl
    have p3 := hbX.at 3 _ rfl
    have p4 := hbX.at 4 _ rfl
    have p5 := hbX.at 5 _ rfl
    have HDX := Lib.hid hdX
    have HLX := Lib.hid hlX
    clear hX r0 r1 r2 r3 r4 r5 k0 k1 k2 k3 k4 k5 hdX hlX hbX
    go_wp2
    refine bodyPost_ret (v := .agg #[.slice a3 n3 c3, .slice a4 q4 c4, .slice a5 q5 c5, .slice none 0 0, .int .i64 d.room, .int .i64 d.next]) (by simp [results, Tryz.results23, go_sem, p0, p1, p2, p3, p4, p5]) rfl ⟨_, rfl, HDX.out.base (by omega), HLX.out⟩

end Go.Proofs.YtkibddcjogfklaaGreatDoor.fall
