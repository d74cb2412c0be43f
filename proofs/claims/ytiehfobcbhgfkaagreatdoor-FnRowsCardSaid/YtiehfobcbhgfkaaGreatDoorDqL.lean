/-
  Draws of disks: spec.l05Any.
-/
import Derived.Test.YtiehfobcbhgfkaaGreatDoorDqY
namespace Go.Proofs.YtiehfobcbhgfkaaGreatDoor.deed
set_option maxRecDepth 20000
open Go.RowKit
open kit strs recs disk kd draw

theorem sm_room {K : Nat} {d : D} {x : Int} (h : Sm K d) (hx : wfI x) : Sm K { d with room := x } := by
  obtain ⟨wN, wE, wO, wS, wR, wX, m1, m2, m3, m4⟩ := h.wf
  exact ⟨⟨wN, wE, wO, wS, hx, wX, m1, m2, m3, m4⟩, h.n, h.e, h.o, h.s⟩
theorem sm_next {K : Nat} {d : D} {x : Int} (h : Sm K d) (hx : wfI x) : Sm K { d with next := x } := by
  obtain ⟨wN, wE, wO, wS, wR, wX, m1, m2, m3, m4⟩ := h.wf
  exact ⟨⟨wN, wE, wO, wS, wR, hx, m1, m2, m3, m4⟩, h.n, h.e, h.o, h.s⟩
theorem wfE_app {xs : List Ent} {e : Ent} (h : wfE xs) (he : e.1.size ≤ maxLen ∧ wfI e.2) : wfE (xs ++ [e]) := fun y hy => by
  rcases List.mem_append.1 hy with hy | hy
  · exact h y hy
  · obtain rfl := List.mem_singleton.1 hy
    exact he
theorem sm_ents {K : Nat} {d : D} {e : Ent} (h : Sm K d) (hK : K ≤ 200000) (he : e.1.size ≤ 20 ∧ wfI e.2) : Sm (K + 400) { d with ents := d.ents ++ [e] } := by
  obtain ⟨wN, wE, wO, wS, wR, wX, m1, m2, m3, m4⟩ := h.wf
  have hl := bulkE_len d.ents
  have hb := h.e
  refine ⟨⟨wN, wfE_app wE ⟨by unfold maxLen; omega, he.2⟩, wO, wS, wR, wX, m1, ?_, m3, m4⟩, Nat.le_trans h.n (by omega), ?_, Nat.le_trans h.o (by omega), Nat.le_trans h.s (by omega)⟩
  · show (d.ents ++ [e]).length ≤ maxLen
    rw [List.length_append]
    unfold maxLen
    simp
    omega
  · show bulkE (d.ents ++ [e]) ≤ _
    rw [bulkE_app, bulkE_one]
    omega
theorem sm_old {K : Nat} {d : D} {e : Ent} (h : Sm K d) (hK : K ≤ 200000) (he : e.1.size ≤ 20 ∧ wfI e.2) : Sm (K + 400) { d with old := d.old ++ [e] } := by
  obtain ⟨wN, wE, wO, wS, wR, wX, m1, m2, m3, m4⟩ := h.wf
  have hl := bulkE_len d.old
  have hb := h.o
  refine ⟨⟨wN, wE, wfE_app wO ⟨by unfold maxLen; omega, he.2⟩, wS, wR, wX, m1, m2, ?_, m4⟩, Nat.le_trans h.n (by omega), Nat.le_trans h.e (by omega), ?_, Nat.le_trans h.s (by omega)⟩
  · show (d.old ++ [e]).length ≤ maxLen
    rw [List.length_append]
    unfold maxLen
    simp
    omega
  · show bulkE (d.old ++ [e]) ≤ _
    rw [bulkE_app, bulkE_one]
    omega
theorem sm_steps {K : Nat} {d : D} {s : ByteArray} (h : Sm K d) (hK : K ≤ 200000) (hs : s.size ≤ 20) : Sm (K + 400) { d with steps := d.steps ++ [s] } := by
  obtain ⟨wN, wE, wO, wS, wR, wX, m1, m2, m3, m4⟩ := h.wf
  have hb := h.s
  have hm := steps_more d.steps s
  refine ⟨⟨wN, wE, wO, wfS_more wS (by unfold maxLen; omega), wR, wX, m1, m2, m3, ?_⟩, Nat.le_trans h.n (by omega), Nat.le_trans h.e (by omega), Nat.le_trans h.o (by omega), ?_⟩
  · show (d.steps ++ [s]).length ≤ maxLen
    rw [List.length_append]
    unfold maxLen
    simp
    omega
  · show (d.steps ++ [s]).length + tot (d.steps ++ [s]) ≤ _
    omega
theorem cellsN_id : ∀ (xs : List Nod) (k : Nat) (n : Nod) (i : Int), xs[k]? = some n → (cellsN xs).set (k * 3) (.int .i64 i) = cellsN (xs.set k (i, n.2.1, n.2.2))
  | [], k, n, t, h => by simp at h
  | x :: r, 0, n, t, h => by
    obtain rfl : x = n := by simpa using h
    simp [cellsN]
  | x :: r, k + 1, n, j, h => by
    have ih := cellsN_id r k n j (by simpa using h)
    have e : cellsN (x :: r) = [.int .i64 x.1, .string x.2.1, .int .i64 x.2.2] ++ cellsN r := by simp [cellsN]
    have e2 : cellsN ((x :: r).set (k + 1) (j, n.2.1, n.2.2)) = [.int .i64 x.1, .string x.2.1, .int .i64 x.2.2] ++ cellsN (r.set k (j, n.2.1, n.2.2)) := by simp [cellsN]
    rw [e, e2, ← ih, List.set_append_right _ _ (by simp; omega)]
    congr 2
    simp
    omega
theorem Rig.rowE {B B0 c len cap b r : Nat} {a : Option Addr} {w wr : World} {sN sO sS : Value} {aE : Option Addr} {cE : Nat} {d : D} (h : Rig B B0 c a len cap w wr b r sN (.slice aE d.ents.length cE) sO sS d) : wr.ownsRow B 71 2 (.slice aE d.ents.length cE) d.ents.length (cellsE d.ents) := by
  obtain ⟨_, _, _, _, nN, nE, nO, nS, hv, rN, rE, rO, rS, _⟩ := h.own
  simp only [Value.agg.injEq, Array.mk.injEq, List.cons.injEq] at hv
  obtain ⟨rfl, rfl, rfl, rfl, _⟩ := hv
  have := rE.1
  rw [cellsE_len] at this
  obtain rfl : nE = d.ents.length := by omega
  exact rE
theorem Rig.rowO {B B0 c len cap b r : Nat} {a : Option Addr} {w wr : World} {sN sE sS : Value} {aO : Option Addr} {cO : Nat} {d : D} (h : Rig B B0 c a len cap w wr b r sN sE (.slice aO d.old.length cO) sS d) : wr.ownsRow B 71 2 (.slice aO d.old.length cO) d.old.length (cellsE d.old) := by
  obtain ⟨_, _, _, _, nN, nE, nO, nS, hv, rN, rE, rO, rS, _⟩ := h.own
  simp only [Value.agg.injEq, Array.mk.injEq, List.cons.injEq] at hv
  obtain ⟨rfl, rfl, rfl, rfl, _⟩ := hv
  have := rO.1
  rw [cellsE_len] at this
  obtain rfl : nO = d.old.length := by omega
  exact rO
theorem Rig.rowS {B B0 c len cap b r : Nat} {a : Option Addr} {w wr : World} {sN sE sO : Value} {aS : Option Addr} {cS : Nat} {d : D} (h : Rig B B0 c a len cap w wr b r sN sE sO (.slice aS d.steps.length cS) d) : wr.ownsRow B 9 1 (.slice aS d.steps.length cS) d.steps.length (d.steps.map Value.string) := by
  obtain ⟨_, _, _, _, nN, nE, nO, nS, hv, rN, rE, rO, rS, _⟩ := h.own
  simp only [Value.agg.injEq, Array.mk.injEq, List.cons.injEq] at hv
  obtain ⟨rfl, rfl, rfl, rfl, _⟩ := hv
  have := rS.1
  rw [List.length_map, Nat.mul_one] at this
  obtain rfl : nS = d.steps.length := by omega
  exact rS
theorem Rig.rowN {B B0 c len cap b r : Nat} {a : Option Addr} {w wr : World} {sE sO sS : Value} {aN : Option Addr} {cN : Nat} {d : D} (h : Rig B B0 c a len cap w wr b r (.slice aN d.nodes.length cN) sE sO sS d) : wr.ownsRow B 87 3 (.slice aN d.nodes.length cN) d.nodes.length (cellsN d.nodes) := by
  obtain ⟨_, _, _, _, nN, nE, nO, nS, hv, rN, rE, rO, rS, _⟩ := h.own
  simp only [Value.agg.injEq, Array.mk.injEq, List.cons.injEq] at hv
  obtain ⟨rfl, rfl, rfl, rfl, _⟩ := hv
  have := rN.1
  rw [cellsN_len] at this
  obtain rfl : nN = d.nodes.length := by omega
  exact rN

theorem Rig.atN {B B0 c len cap b r : Nat} {a : Option Addr} {w wr : World} {sE sO sS : Value} {aN : Option Addr} {n cN : Nat} {d : D} (h : Rig B B0 c a len cap w wr b r (.slice aN n cN) sE sO sS d) : AtN wr aN n d.nodes := by
  obtain ⟨aN, aE, aO, aS, nN, cN, nE, cE, nO, cO, nS, cS, hv, h1, h2, h3, h4⟩ := h.own.is
  simp only [Value.agg.injEq, Array.mk.injEq, List.cons.injEq, Value.slice.injEq] at hv
  obtain ⟨⟨rfl, rfl, rfl⟩, _⟩ := hv
  exact h1

set_option maxHeartbeats 16000000 in
set_option maxRecDepth 100000 in
theorem any_any (B0 c : Nat) (a : Option Addr) (len cap : Nat) (w : World) (hBc : B0 ≤ c) (hcw : c < w.heap.size) (hc : CodeAt w B0 a len) (hu : Cur w c a len cap) :
    Calls Tryz.prog 97 #[.pointer (some ⟨c, 0, none⟩)] w (PostD 6800 c a len cap w) := by
  obtain ⟨W, hW⟩ : ∃ W, W = w.alloc (.cells #[.slice none 0 0, .slice none 0 0, .slice none 0 0, .slice none 0 0, .int .i64 0, .int .i64 0] 28) := ⟨_, rfl⟩
  have hWB : Below w.heap.size w W := by rw [hW]; exact (Below.refl _ _).alloc (Nat.le_refl _) _
  have hsz : w.heap.size + 1 = W.heap.size := by rw [hW]; simp
  have br := show disk.Box W w.heap.size [.slice none 0 0, .slice none 0 0, .slice none 0 0, .slice none 0 0, .int .i64 0, .int .i64 0] from by rw [hW]; exact Box.new w #[.slice none 0 0, .slice none 0 0, .slice none 0 0, .slice none 0 0, .int .i64 0, .int .i64 0] _
  have fr : ∀ j, W.frozen? ⟨w.heap.size, j, none⟩ = false := fun j => by rw [hW]; simp
  have cW := hc.below (hWB.mono (by omega))
  have uW := hu.below (hWB.mono (by omega))
  have BR := Lib.hid br
  have FR := Lib.hid fr
  have HW := Lib.hid hWB
  clear br fr hWB hc hu
  go_enter Tryz.func97, Tryz.ntmps97
  go_wp2_with (fail)
  rw [← hW]
  clear hW
  refine (disk_any B0 c a len cap W hBc (by omega) cW uW).mono ?_
  rintro e w1 ⟨u, d, rfl, hd, sm, u1, g1⟩
  have code1 := cW.grown hBc (by omega) g1
  have hs1 := g1.size
  obtain ⟨aN, aE, aO, aS, cN, cE, cO, cS, rfl⟩ := own_slices hd
  obtain ⟨V, hV⟩ : ∃ V, V = w1.alloc (.cells #[.slice aN d.nodes.length cN, .slice aE d.ents.length cE, .slice aO d.old.length cO, .slice aS d.steps.length cS, .int .i64 d.room, .int .i64 d.next] 28) := ⟨_, rfl⟩
  have bV : Below w1.heap.size w1 V := by rw [hV]; exact (Below.refl _ _).alloc (Nat.le_refl _) _
  have sV : V.heap.size = w1.heap.size + 1 := by rw [hV]; simp
  have br1 := box_keep BR.out g1 (by omega)
  have fr1 := frozen_keep FR.out BR.out.1 g1 (by omega)
  have H0 : Rig W.heap.size B0 c a len cap w V w1.heap.size w.heap.size (.slice aN d.nodes.length cN) (.slice aE d.ents.length cE) (.slice aO d.old.length cO) (.slice aS d.steps.length cS) d := by
    refine ⟨?_, ?_, ⟨_, by rw [hV]; exact heap_alloc_new w1 _⟩, ⟨_, _, _, _, _, _, br1.below bV⟩, frozen_below fr1 br1.1 bV, disk_below hd bV, u1.below (bV.mono (by omega)), code1.below (bV.mono (by omega)), grown_below (grown_trans (grown_below (grown_refl w (some c)) HW.out) g1) (bV.mono (by omega)), by omega, by omega, Nat.le_refl _, by omega, by omega, by omega, hBc, hcw⟩
    · rw [hV]; exact Box.new w1 #[.slice aN d.nodes.length cN, .slice aE d.ents.length cE, .slice aO d.old.length cO, .slice aS d.steps.length cS, .int .i64 d.room, .int .i64 d.next] _
    · intro j; rw [hV]; simp
  have H0 := Lib.hid H0
  have SM := Lib.hid sm
  clear hd u1 g1 code1 bV br1 fr1 BR FR HW cW uW sm
  go_wp2_with (fail)
  rw [← hV]
  clear hV
  refine (below_any B0 c a len cap 16 V hBc H0.out.lt.2 H0.out.code H0.out.cur (by omega) (by omega)).mono ?_
  rintro e w3 ⟨⟨y, l3, m3, rfl⟩, u3, g3⟩
  have H := Lib.hid (H0.out.draw g3 u3)
  clear H0 g3 u3
  have x0 := H.out.box.at 0 _ rfl
  have x1 := H.out.box.at 1 _ rfl
  have x2 := H.out.box.at 2 _ rfl
  have x3 := H.out.box.at 3 _ rfl
  have x4 := H.out.box.at 4 _ rfl
  have x5 := H.out.box.at 5 _ rfl
  have xf := H.out.fz
  obtain ⟨u0, u1, u2, u3, u4, u5, ho⟩ := H.out.out
  have q0 := ho.at 0 _ rfl
  have q1 := ho.at 1 _ rfl
  have q2 := ho.at 2 _ rfl
  have q3 := ho.at 3 _ rfl
  have q4 := ho.at 4 _ rfl
  have q5 := ho.at 5 _ rfl
  have qf := H.out.fr
  clear ho
  have zb := H.out.box.1
  have hnb : ¬ w1.heap.size = w.heap.size := H.out.ne
  have hnb2 : ¬ w.heap.size = w1.heap.size := fun e => H.out.ne e.symm
  have LL : d.nodes.length ≤ 6400 ∧ d.ents.length ≤ 6400 ∧ d.old.length ≤ 6400 ∧ d.steps.length ≤ 6400 := by
    have h1 := SM.out.n
    have h2 := SM.out.e
    have h3 := SM.out.o
    have h4 := SM.out.s
    unfold bulkN at h1
    unfold bulkE at h2 h3
    simp only [List.length_map] at h1 h2 h3
    omega
  have HLL := Lib.hid LL
  clear LL
  rcases (show y = 0 ∨ y = 1 ∨ y = 2 ∨ y = 3 ∨ y = 4 ∨ y = 5 ∨ y = 6 ∨ (¬ y = 0 ∧ ¬ y = 1 ∧ ¬ y = 2 ∧ ¬ y = 3 ∧ ¬ y = 4 ∧ ¬ y = 5 ∧ ¬ y = 6) by omega) with rfl | rfl | rfl | rfl | rfl | rfl | rfl | ⟨n0, n1, n2, n3, n4, n5, n6⟩
  · go_wp2_with (fail)
    refine (pickInt_new B0 c 4 a len cap [-1, 0, 5, 1000000001] w3 hBc H.out.lt.1 H.out.code H.out.cur rfl (by decide) (by decide)).mono ?_
    rintro e w4 ⟨x, hx, rfl, u4, g4⟩
    have hx2 : wfI x := by
      unfold wfI
      simp only [List.mem_cons, List.not_mem_nil, or_false] at hx
      omega
    have H4 := Lib.hid (H.out.draw g4 u4)
    clear x0 x1 x2 x3 x4 x5 xf q0 q1 q2 q3 q4 q5 qf u4 g4 hx
    have x0 := H4.out.box.at 0 _ rfl
    have x1 := H4.out.box.at 1 _ rfl
    have x2 := H4.out.box.at 2 _ rfl
    have x3 := H4.out.box.at 3 _ rfl
    have x4 := H4.out.box.at 4 _ rfl
    have x5 := H4.out.box.at 5 _ rfl
    have xf := H4.out.fz
    obtain ⟨u0, u1, u2, u3, u4, u5, ho⟩ := H4.out.out
    have q0 := ho.at 0 _ rfl
    have q1 := ho.at 1 _ rfl
    have q2 := ho.at 2 _ rfl
    have q3 := ho.at 3 _ rfl
    have q4 := ho.at 4 _ rfl
    have q5 := ho.at 5 _ rfl
    have qf := H4.out.fr
    clear ho
    have H5 := Lib.hid (H4.out.room x)
    have SM2 := Lib.hid ((sm_room SM.out hx2).mono (show 6400 ≤ 6800 by decide))
    obtain ⟨Z, hZ, hbz, hdz, hcz, hgz⟩ : ∃ Z, ((((((w4.setCell ⟨w1.heap.size, 4, none⟩ (.int .i64 x)).setCell ⟨w.heap.size, 0, none⟩ (.slice aN d.nodes.length cN)).setCell ⟨w.heap.size, 1, none⟩ (.slice aE d.ents.length cE)).setCell ⟨w.heap.size, 2, none⟩ (.slice aO d.old.length cO)).setCell ⟨w.heap.size, 3, none⟩ (.slice aS d.steps.length cS)).setCell ⟨w.heap.size, 4, none⟩ (.int .i64 x)).setCell ⟨w.heap.size, 5, none⟩ (.int .i64 d.next) = Z ∧ disk.Box Z w.heap.size [.slice aN d.nodes.length cN, .slice aE d.ents.length cE, .slice aO d.old.length cO, .slice aS d.steps.length cS, .int .i64 x, .int .i64 d.next] ∧ OwnDisk w.heap.size Z (.agg #[.slice aN d.nodes.length cN, .slice aE d.ents.length cE, .slice aO d.old.length cO, .slice aS d.steps.length cS, .int .i64 x, .int .i64 d.next]) ({ d with room := x }) ∧ Cur Z c a len cap ∧ w.grownBy Z (some c) := H5.out.ret
    have z0 := hbz.at 0 _ rfl
    have z1 := hbz.at 1 _ rfl
    have z2 := hbz.at 2 _ rfl
    have z3 := hbz.at 3 _ rfl
    have z4 := hbz.at 4 _ rfl
    have z5 := hbz.at 5 _ rfl
    have HZ := Lib.hid hZ
    clear hZ hbz
    go_wp2
    rw [HZ.out]
    refine bodyPost_ret (v := .agg #[.slice aN d.nodes.length cN, .slice aE d.ents.length cE, .slice aO d.old.length cO, .slice aS d.steps.length cS, .int .i64 x, .int .i64 d.next]) (by simp [results, Tryz.results97, go_sem, z0, z1, z2, z3, z4, z5]) rfl ⟨_, _, rfl, hdz, SM2.out, hcz, by first | exact hgz | exact ⟨hgz.os, hgz.tape, hgz.output, hgz.size, hgz.block⟩⟩
  · go_wp2_with (fail)
    refine (pickInt_new B0 c 5 a len cap [0, 1, 2, -1, 9223372036854775807] w3 hBc H.out.lt.1 H.out.code H.out.cur rfl (by decide) (by decide)).mono ?_
    rintro e w4 ⟨x, hx, rfl, u4, g4⟩
    have hx2 : wfI x := by
      unfold wfI
      simp only [List.mem_cons, List.not_mem_nil, or_false] at hx
      omega
    have H4 := Lib.hid (H.out.draw g4 u4)
    clear x0 x1 x2 x3 x4 x5 xf q0 q1 q2 q3 q4 q5 qf u4 g4 hx
    have x0 := H4.out.box.at 0 _ rfl
    have x1 := H4.out.box.at 1 _ rfl
    have x2 := H4.out.box.at 2 _ rfl
    have x3 := H4.out.box.at 3 _ rfl
    have x4 := H4.out.box.at 4 _ rfl
    have x5 := H4.out.box.at 5 _ rfl
    have xf := H4.out.fz
    obtain ⟨u0, u1, u2, u3, u4, u5, ho⟩ := H4.out.out
    have q0 := ho.at 0 _ rfl
    have q1 := ho.at 1 _ rfl
    have q2 := ho.at 2 _ rfl
    have q3 := ho.at 3 _ rfl
    have q4 := ho.at 4 _ rfl
    have q5 := ho.at 5 _ rfl
    have qf := H4.out.fr
    clear ho
    have H5 := Lib.hid (H4.out.next x)
    have SM2 := Lib.hid ((sm_next SM.out hx2).mono (show 6400 ≤ 6800 by decide))
    obtain ⟨Z, hZ, hbz, hdz, hcz, hgz⟩ : ∃ Z, ((((((w4.setCell ⟨w1.heap.size, 5, none⟩ (.int .i64 x)).setCell ⟨w.heap.size, 0, none⟩ (.slice aN d.nodes.length cN)).setCell ⟨w.heap.size, 1, none⟩ (.slice aE d.ents.length cE)).setCell ⟨w.heap.size, 2, none⟩ (.slice aO d.old.length cO)).setCell ⟨w.heap.size, 3, none⟩ (.slice aS d.steps.length cS)).setCell ⟨w.heap.size, 4, none⟩ (.int .i64 d.room)).setCell ⟨w.heap.size, 5, none⟩ (.int .i64 x) = Z ∧ disk.Box Z w.heap.size [.slice aN d.nodes.length cN, .slice aE d.ents.length cE, .slice aO d.old.length cO, .slice aS d.steps.length cS, .int .i64 d.room, .int .i64 x] ∧ OwnDisk w.heap.size Z (.agg #[.slice aN d.nodes.length cN, .slice aE d.ents.length cE, .slice aO d.old.length cO, .slice aS d.steps.length cS, .int .i64 d.room, .int .i64 x]) ({ d with next := x }) ∧ Cur Z c a len cap ∧ w.grownBy Z (some c) := H5.out.ret
    have z0 := hbz.at 0 _ rfl
    have z1 := hbz.at 1 _ rfl
    have z2 := hbz.at 2 _ rfl
    have z3 := hbz.at 3 _ rfl
    have z4 := hbz.at 4 _ rfl
    have z5 := hbz.at 5 _ rfl
    have HZ := Lib.hid hZ
    clear hZ hbz
    go_wp2
    rw [HZ.out]
    refine bodyPost_ret (v := .agg #[.slice aN d.nodes.length cN, .slice aE d.ents.length cE, .slice aO d.old.length cO, .slice aS d.steps.length cS, .int .i64 d.room, .int .i64 x]) (by simp [results, Tryz.results97, go_sem, z0, z1, z2, z3, z4, z5]) rfl ⟨_, _, rfl, hdz, SM2.out, hcz, by first | exact hgz | exact ⟨hgz.os, hgz.tape, hgz.output, hgz.size, hgz.block⟩⟩
  · obtain ⟨i0, hi, hz0, hz1, hz2⟩ := info_parts Tryz.infoEnt
    have bn : d.ents.length + 1 ≤ maxLen := by have := HLL.out; unfold maxLen; omega
    have bm : (d.ents.length + 1) * 24 ≤ 140737488355328 := by have := HLL.out; omega
    have Hd := Lib.hid (H.out.below ((Below.refl w3.heap.size w3).drew))
    go_wp2
    go_region_law (first | (go_simp; go_at_call 139; refine (below_any B0 c a len cap 4 w3.drew hBc Hd.out.lt.2 Hd.out.code Hd.out.cur (by omega) (by omega)).mono ?_; rintro e w4 ⟨⟨q, l7, m7, rfl⟩, u4, g4⟩; have H4 := Lib.hid (Hd.out.draw g4 u4); have v0 := H4.out.box.at 0 _ rfl; have v1 := H4.out.box.at 1 _ rfl; have v2 := H4.out.box.at 2 _ rfl; have v3 := H4.out.box.at 3 _ rfl; have v4 := H4.out.box.at 4 _ rfl; have v5 := H4.out.box.at 5 _ rfl; have zb4 := H4.out.box.1; have hya := (Below.refl w4.heap.size w4).alloc (Nat.le_refl _) (.cells #[.string { data := #[122] }, .int .i64 q] 71); have Ha := Lib.hid (H4.out.below hya); have RS := Lib.hid Ha.out.rowE; have ZS := Lib.hid Ha.out.hs; clear hya; have CS := Lib.hid (cells_new2 w4 (.string { data := #[122] }) (.int .i64 q) 71)) | (refine step_copy2 (by rfl) (.tmp 23) (.tmp 27) 25 (by rfl) W.heap.size 71 i0 (.agg #[.string { data := #[] }, .int .i64 0]) 2 24 Tryz.underlying25 hi hz0 hz1 hz2 (by rfl) (by decide) _ d.ents.length (cellsE d.ents) RS.out ZS.out ⟨w4.heap.size, 0, none⟩ 1 1 [.string { data := #[122] }, .int .i64 q] CS.out (two_one _ _) (by decide) bn bm (by rfl) (by rfl) ?_; intro v6 w6 hown6 hg6 hf6; obtain ⟨a6, c6, rfl, _, _⟩ := own_shape hown6; have m6 := Ha.out.mid RS.out (by decide) hg6; have e0 := m6.1.at 0 _ rfl; have e1 := m6.1.at 1 _ rfl; have e2 := m6.1.at 2 _ rfl; have e3 := m6.1.at 3 _ rfl; have e4 := m6.1.at 4 _ rfl; have e5 := m6.1.at 5 _ rfl; have ef := m6.2; have H5 := Lib.hid (Ha.out.ents (es := d.ents ++ [({ data := #[122] }, q)]) hg6 (by rw [cellsE_app]; exact hown6) (by rw [cellsE_app]; exact hf6)); clear m6 hown6 hg6 hf6))
    all_goals
      have SM2 := Lib.hid ((sm_ents (e := ({ data := #[122] }, q)) SM.out (by decide) ⟨(show ({ data := #[122] } : ByteArray).size ≤ 20 by decide), by unfold wfI; omega⟩).mono (show 6400 + 400 ≤ 6800 by decide))
      clear q0 q1 q2 q3 q4 q5 qf
      obtain ⟨u0, u1, u2, u3, u4, u5, ho⟩ := H5.out.out
      have q0 := ho.at 0 _ rfl
      have q1 := ho.at 1 _ rfl
      have q2 := ho.at 2 _ rfl
      have q3 := ho.at 3 _ rfl
      have q4 := ho.at 4 _ rfl
      have q5 := ho.at 5 _ rfl
      have qf := H5.out.fr
      clear ho
      obtain ⟨Z, hZ, hbz, hdz, hcz, hgz⟩ : ∃ Z, ((((((w6.setCell ⟨w1.heap.size, 1, none⟩ (.slice a6 (d.ents.length + 1) c6)).setCell ⟨w.heap.size, 0, none⟩ (.slice aN d.nodes.length cN)).setCell ⟨w.heap.size, 1, none⟩ (.slice a6 (d.ents.length + 1) c6)).setCell ⟨w.heap.size, 2, none⟩ (.slice aO d.old.length cO)).setCell ⟨w.heap.size, 3, none⟩ (.slice aS d.steps.length cS)).setCell ⟨w.heap.size, 4, none⟩ (.int .i64 d.room)).setCell ⟨w.heap.size, 5, none⟩ (.int .i64 d.next) = Z ∧ disk.Box Z w.heap.size [.slice aN d.nodes.length cN, .slice a6 (d.ents.length + 1) c6, .slice aO d.old.length cO, .slice aS d.steps.length cS, .int .i64 d.room, .int .i64 d.next] ∧ OwnDisk w.heap.size Z (.agg #[.slice aN d.nodes.length cN, .slice a6 (d.ents.length + 1) c6, .slice aO d.old.length cO, .slice aS d.steps.length cS, .int .i64 d.room, .int .i64 d.next]) ({ d with ents := d.ents ++ [({ data := #[122] }, q)] }) ∧ Cur Z c a len cap ∧ w.grownBy Z (some c) := H5.out.ret
      have z0 := hbz.at 0 _ rfl
      have z1 := hbz.at 1 _ rfl
      have z2 := hbz.at 2 _ rfl
      have z3 := hbz.at 3 _ rfl
      have z4 := hbz.at 4 _ rfl
      have z5 := hbz.at 5 _ rfl
      have HZ := Lib.hid hZ
      clear hZ hbz
      go_wp2
      rw [HZ.out]
      refine bodyPost_ret (v := .agg #[.slice aN d.nodes.length cN, .slice a6 (d.ents.length + 1) c6, .slice aO d.old.length cO, .slice aS d.steps.length cS, .int .i64 d.room, .int .i64 d.next]) (by simp [results, Tryz.results97, go_sem, z0, z1, z2, z3, z4, z5]) rfl ⟨_, _, rfl, hdz, SM2.out, hcz, by first | exact hgz | exact ⟨hgz.os, hgz.tape, hgz.output, hgz.size, hgz.block⟩⟩
  · obtain ⟨i0, hi, hz0, hz1, hz2⟩ := info_parts Tryz.infoEnt
    have bn : d.old.length + 1 ≤ maxLen := by have := HLL.out; unfold maxLen; omega
    have bm : (d.old.length + 1) * 24 ≤ 140737488355328 := by have := HLL.out; omega
    have hya := (Below.refl w3.heap.size w3).alloc (Nat.le_refl _) (.cells #[.string { data := #[122] }, .int .i64 1] 71)
    have Ha := Lib.hid (H.out.below hya)
    have RS := Lib.hid Ha.out.rowO
    have ZS := Lib.hid Ha.out.hs
    have CS := Lib.hid (cells_new2 w3 (.string { data := #[122] }) (.int .i64 1) 71)
    clear hya
    go_wp2_with (first | (at_builtin; refine list_copy2 (by rfl) (.tmp 33) (.tmp 35) 25 (by rfl) W.heap.size 71 i0 (.agg #[.string { data := #[] }, .int .i64 0]) 2 24 Tryz.underlying25 hi hz0 hz1 hz2 (by rfl) (by decide) _ d.old.length (cellsE d.old) RS.out ZS.out ⟨w3.heap.size, 0, none⟩ 1 1 [.string { data := #[122] }, .int .i64 1] CS.out (two_one _ _) (by decide) bn bm (by rfl) (by rfl) ?_; intro v6 w6 hown6 hg6 hf6; obtain ⟨a6, c6, rfl, _, _⟩ := own_shape hown6; have m6 := Ha.out.mid RS.out (by decide) hg6; have e0 := m6.1.at 0 _ rfl; have e1 := m6.1.at 1 _ rfl; have e2 := m6.1.at 2 _ rfl; have e3 := m6.1.at 3 _ rfl; have e4 := m6.1.at 4 _ rfl; have e5 := m6.1.at 5 _ rfl; have ef := m6.2; have H5 := Lib.hid (Ha.out.old (es := d.old ++ [({ data := #[122] }, 1)]) hg6 (by rw [cellsE_app]; exact hown6) (by rw [cellsE_app]; exact hf6)); clear m6 hown6 hg6 hf6 q0 q1 q2 q3 q4 q5 qf; obtain ⟨u0, u1, u2, u3, u4, u5, ho⟩ := H5.out.out; have q0 := ho.at 0 _ rfl; have q1 := ho.at 1 _ rfl; have q2 := ho.at 2 _ rfl; have q3 := ho.at 3 _ rfl; have q4 := ho.at 4 _ rfl; have q5 := ho.at 5 _ rfl; have qf := H5.out.fr; clear ho) | fail)
    have SM2 := Lib.hid ((sm_old (e := ({ data := #[122] }, 1)) SM.out (by decide) ⟨(show ({ data := #[122] } : ByteArray).size ≤ 20 by decide), (show wfI 1 from ⟨by decide, by decide⟩)⟩).mono (show 6400 + 400 ≤ 6800 by decide))
    obtain ⟨Z, hZ, hbz, hdz, hcz, hgz⟩ : ∃ Z, ((((((w6.setCell ⟨w1.heap.size, 2, none⟩ (.slice a6 (d.old.length + 1) c6)).setCell ⟨w.heap.size, 0, none⟩ (.slice aN d.nodes.length cN)).setCell ⟨w.heap.size, 1, none⟩ (.slice aE d.ents.length cE)).setCell ⟨w.heap.size, 2, none⟩ (.slice a6 (d.old.length + 1) c6)).setCell ⟨w.heap.size, 3, none⟩ (.slice aS d.steps.length cS)).setCell ⟨w.heap.size, 4, none⟩ (.int .i64 d.room)).setCell ⟨w.heap.size, 5, none⟩ (.int .i64 d.next) = Z ∧ disk.Box Z w.heap.size [.slice aN d.nodes.length cN, .slice aE d.ents.length cE, .slice a6 (d.old.length + 1) c6, .slice aS d.steps.length cS, .int .i64 d.room, .int .i64 d.next] ∧ OwnDisk w.heap.size Z (.agg #[.slice aN d.nodes.length cN, .slice aE d.ents.length cE, .slice a6 (d.old.length + 1) c6, .slice aS d.steps.length cS, .int .i64 d.room, .int .i64 d.next]) ({ d with old := d.old ++ [({ data := #[122] }, 1)] }) ∧ Cur Z c a len cap ∧ w.grownBy Z (some c) := H5.out.ret
    have z0 := hbz.at 0 _ rfl
    have z1 := hbz.at 1 _ rfl
    have z2 := hbz.at 2 _ rfl
    have z3 := hbz.at 3 _ rfl
    have z4 := hbz.at 4 _ rfl
    have z5 := hbz.at 5 _ rfl
    have HZ := Lib.hid hZ
    clear hZ hbz
    skip
    rw [HZ.out]
    refine bodyPost_ret (v := .agg #[.slice aN d.nodes.length cN, .slice aE d.ents.length cE, .slice a6 (d.old.length + 1) c6, .slice aS d.steps.length cS, .int .i64 d.room, .int .i64 d.next]) (by simp [results, Tryz.results97, go_sem, z0, z1, z2, z3, z4, z5]) rfl ⟨_, _, rfl, hdz, SM2.out, hcz, by first | exact hgz | exact ⟨hgz.os, hgz.tape, hgz.output, hgz.size, hgz.block⟩⟩
  · obtain ⟨i0, hi, hz0, hz1, hz2⟩ := info_parts strs.Tryz.infoStr
    have bn : d.steps.length + 1 ≤ maxLen := by have := HLL.out; unfold maxLen; omega
    have bm : (d.steps.length + 1) * 16 ≤ 140737488355328 := by have := HLL.out; omega
    have Hd := Lib.hid (H.out.below ((Below.refl w3.heap.size w3).drew))
    go_wp2
    go_region_law (first | (go_simp; go_at_call 141; refine (pick_new B0 c 8 a len cap [{ data := #[45, 97] }, { data := #[43, 113, 58, 49] }, { data := #[120] }, { data := #[] }, { data := #[43, 113, 58, 57] }, { data := #[45, 122, 122] }, { data := #[43, 58, 49] }, { data := #[43, 113, 58] }] w3.drew hBc Hd.out.lt.1 Hd.out.code Hd.out.cur rfl (by decide) (by decide)).mono ?_; rintro e w4 ⟨s, hs, rfl, u4, g4⟩; have hsz2 : s.size ≤ 20 := (by simp only [List.mem_cons, List.not_mem_nil, or_false] at hs; rcases hs with rfl | rfl | rfl | rfl | rfl | rfl | rfl | rfl <;> decide); have H4 := Lib.hid (Hd.out.draw g4 u4); have v0 := H4.out.box.at 0 _ rfl; have v1 := H4.out.box.at 1 _ rfl; have v2 := H4.out.box.at 2 _ rfl; have v3 := H4.out.box.at 3 _ rfl; have v4 := H4.out.box.at 4 _ rfl; have v5 := H4.out.box.at 5 _ rfl; have zb4 := H4.out.box.1; have hya := (Below.refl w4.heap.size w4).alloc (Nat.le_refl _) (.cells #[.string s] 9); have Ha := Lib.hid (H4.out.below hya); have RS := Lib.hid Ha.out.rowS; have ZS := Lib.hid Ha.out.hs; clear hya; have CS := Lib.hid (cells_new w4 (.string s) 9); clear hs) | (refine step_copy2 (by rfl) (.tmp 41) (.tmp 45) 26 (by rfl) W.heap.size 9 i0 (.string { data := #[] }) 1 16 Tryz.underlying26 hi hz0 hz1 hz2 (by rfl) (by decide) _ d.steps.length (d.steps.map Value.string) RS.out ZS.out ⟨w4.heap.size, 0, none⟩ 1 1 [.string s] CS.out (one_str _) (by decide) bn bm (by rfl) (by rfl) ?_; intro v6 w6 hown6 hg6 hf6; obtain ⟨a6, c6, rfl, _, _⟩ := own_shape hown6; have m6 := Ha.out.mid RS.out (by decide) hg6; have e0 := m6.1.at 0 _ rfl; have e1 := m6.1.at 1 _ rfl; have e2 := m6.1.at 2 _ rfl; have e3 := m6.1.at 3 _ rfl; have e4 := m6.1.at 4 _ rfl; have e5 := m6.1.at 5 _ rfl; have ef := m6.2; have H5 := Lib.hid (Ha.out.steps (ss := d.steps ++ [s]) hg6 (by rw [List.map_append]; exact hown6)); clear m6 hown6 hg6 hf6))
    all_goals
      have SM2 := Lib.hid ((sm_steps (s := s) SM.out (by decide) hsz2).mono (show 6400 + 400 ≤ 6800 by decide))
      clear q0 q1 q2 q3 q4 q5 qf
      obtain ⟨u0, u1, u2, u3, u4, u5, ho⟩ := H5.out.out
      have q0 := ho.at 0 _ rfl
      have q1 := ho.at 1 _ rfl
      have q2 := ho.at 2 _ rfl
      have q3 := ho.at 3 _ rfl
      have q4 := ho.at 4 _ rfl
      have q5 := ho.at 5 _ rfl
      have qf := H5.out.fr
      clear ho
      obtain ⟨Z, hZ, hbz, hdz, hcz, hgz⟩ : ∃ Z, ((((((w6.setCell ⟨w1.heap.size, 3, none⟩ (.slice a6 (d.steps.length + 1) c6)).setCell ⟨w.heap.size, 0, none⟩ (.slice aN d.nodes.length cN)).setCell ⟨w.heap.size, 1, none⟩ (.slice aE d.ents.length cE)).setCell ⟨w.heap.size, 2, none⟩ (.slice aO d.old.length cO)).setCell ⟨w.heap.size, 3, none⟩ (.slice a6 (d.steps.length + 1) c6)).setCell ⟨w.heap.size, 4, none⟩ (.int .i64 d.room)).setCell ⟨w.heap.size, 5, none⟩ (.int .i64 d.next) = Z ∧ disk.Box Z w.heap.size [.slice aN d.nodes.length cN, .slice aE d.ents.length cE, .slice aO d.old.length cO, .slice a6 (d.steps.length + 1) c6, .int .i64 d.room, .int .i64 d.next] ∧ OwnDisk w.heap.size Z (.agg #[.slice aN d.nodes.length cN, .slice aE d.ents.length cE, .slice aO d.old.length cO, .slice a6 (d.steps.length + 1) c6, .int .i64 d.room, .int .i64 d.next]) ({ d with steps := d.steps ++ [s] }) ∧ Cur Z c a len cap ∧ w.grownBy Z (some c) := H5.out.ret
      have z0 := hbz.at 0 _ rfl
      have z1 := hbz.at 1 _ rfl
      have z2 := hbz.at 2 _ rfl
      have z3 := hbz.at 3 _ rfl
      have z4 := hbz.at 4 _ rfl
      have z5 := hbz.at 5 _ rfl
      have HZ := Lib.hid hZ
      clear hZ hbz
      go_wp2
      rw [HZ.out]
      refine bodyPost_ret (v := .agg #[.slice aN d.nodes.length cN, .slice aE d.ents.length cE, .slice aO d.old.length cO, .slice a6 (d.steps.length + 1) c6, .int .i64 d.room, .int .i64 d.next]) (by simp [results, Tryz.results97, go_sem, z0, z1, z2, z3, z4, z5]) rfl ⟨_, _, rfl, hdz, SM2.out, hcz, by first | exact hgz | exact ⟨hgz.os, hgz.tape, hgz.output, hgz.size, hgz.block⟩⟩
  · by_cases hn : 0 < d.nodes.length
    · have i1 : (0 : Int) < (d.nodes.length : Int) := by omega
      obtain ⟨gi, hgi, hge, hgl⟩ : ∃ g, aN = some ⟨g, 0, none⟩ ∧ W.heap.size ≤ g ∧ g < w3.heap.size := by
        obtain ⟨a', c', he, _, h0⟩ := own_shape H.out.rowN
        simp only [Value.slice.injEq] at he
        obtain ⟨rfl, _⟩ := he
        exact h0.resolve_left (by omega)
      subst hgi
      obtain ⟨nd, hx0⟩ : ∃ nd, d.nodes[0]? = some nd := ⟨_, List.getElem?_eq_getElem hn⟩
      have HX0 := Lib.hid hx0
      have Hd := Lib.hid (H.out.below ((Below.refl w3.heap.size w3).drew))
      clear hx0
      go_wp2
      go_region_law (first | (go_simp; go_at_call 131; refine (pickInt_new B0 c 3 a len cap [-1, 0, 99] w3.drew hBc Hd.out.lt.1 Hd.out.code Hd.out.cur rfl (by decide) (by decide)).mono ?_; rintro e w4 ⟨x, hx, rfl, u4, g4⟩; have hx2 : wfI x := (by unfold wfI; simp only [List.mem_cons, List.not_mem_nil, or_false] at hx; omega); have H4 := Lib.hid (Hd.out.draw g4 u4); have v0 := H4.out.box.at 0 _ rfl; obtain ⟨gj, oj, hgj, _, _, c00, c01, c02⟩ := H4.out.atN.nth HX0.out; obtain ⟨rfl, rfl⟩ : gi = gj ∧ 0 = oj := (by simpa using hgj); simp only [Nat.zero_add, Nat.zero_mul] at c00 c01 c02; have f2 := H4.out.rowN.frozenAt 2; clear hx))
      all_goals
        have SM2 := Lib.hid ((sm_set (t := 0) (k := 0) (m := (nd.1, nd.2.1, x)) SM.out (by decide) HX0.out ⟨(SM.out.wf.1 _ (List.mem_of_getElem? HX0.out)).1, hx2⟩ (Nat.le_refl _) (Nat.zero_le _)).mono (show 6400 + 400 ≤ 6800 by decide))
        obtain ⟨Y, hY, H5⟩ : ∃ Y, w4.setCell ⟨gi, 2, none⟩ (.int .i64 x) = Y ∧ Rig W.heap.size B0 c a len cap w Y w1.heap.size w.heap.size (.slice (some ⟨gi, 0, none⟩) d.nodes.length cN) (.slice aE d.ents.length cE) (.slice aO d.old.length cO) (.slice aS d.steps.length cS) { d with nodes := d.nodes.set 0 (nd.1, nd.2.1, x) } := ⟨_, rfl, H4.out.node (j := 2) (cellsN_sure d.nodes 0 nd x HX0.out)⟩
        have H5 := Lib.hid H5
        rw [hY]
        clear hY x0 x1 x2 x3 x4 x5 xf q0 q1 q2 q3 q4 q5 qf v0
        have x0 := H5.out.box.at 0 _ rfl
        have x1 := H5.out.box.at 1 _ rfl
        have x2 := H5.out.box.at 2 _ rfl
        have x3 := H5.out.box.at 3 _ rfl
        have x4 := H5.out.box.at 4 _ rfl
        have x5 := H5.out.box.at 5 _ rfl
        have xf := H5.out.fz
        obtain ⟨u0, u1, u2, u3, u4, u5, ho⟩ := H5.out.out
        have q0 := ho.at 0 _ rfl
        have q1 := ho.at 1 _ rfl
        have q2 := ho.at 2 _ rfl
        have q3 := ho.at 3 _ rfl
        have q4 := ho.at 4 _ rfl
        have q5 := ho.at 5 _ rfl
        have qf := H5.out.fr
        clear ho
        obtain ⟨Z, hZ, hbz, hdz, hcz, hgz⟩ : ∃ Z, ((((((Y).setCell ⟨w.heap.size, 0, none⟩ (.slice (some ⟨gi, 0, none⟩) d.nodes.length cN)).setCell ⟨w.heap.size, 1, none⟩ (.slice aE d.ents.length cE)).setCell ⟨w.heap.size, 2, none⟩ (.slice aO d.old.length cO)).setCell ⟨w.heap.size, 3, none⟩ (.slice aS d.steps.length cS)).setCell ⟨w.heap.size, 4, none⟩ (.int .i64 d.room)).setCell ⟨w.heap.size, 5, none⟩ (.int .i64 d.next) = Z ∧ disk.Box Z w.heap.size [.slice (some ⟨gi, 0, none⟩) d.nodes.length cN, .slice aE d.ents.length cE, .slice aO d.old.length cO, .slice aS d.steps.length cS, .int .i64 d.room, .int .i64 d.next] ∧ OwnDisk w.heap.size Z (.agg #[.slice (some ⟨gi, 0, none⟩) d.nodes.length cN, .slice aE d.ents.length cE, .slice aO d.old.length cO, .slice aS d.steps.length cS, .int .i64 d.room, .int .i64 d.next]) ({ d with nodes := d.nodes.set 0 (nd.1, nd.2.1, x) }) ∧ Cur Z c a len cap ∧ w.grownBy Z (some c) := H5.out.ret
        have z0 := hbz.at 0 _ rfl
        have z1 := hbz.at 1 _ rfl
        have z2 := hbz.at 2 _ rfl
        have z3 := hbz.at 3 _ rfl
        have z4 := hbz.at 4 _ rfl
        have z5 := hbz.at 5 _ rfl
        have HZ := Lib.hid hZ
        clear hZ hbz
        go_wp2
        rw [HZ.out]
        refine bodyPost_ret (v := .agg #[.slice (some ⟨gi, 0, none⟩) d.nodes.length cN, .slice aE d.ents.length cE, .slice aO d.old.length cO, .slice aS d.steps.length cS, .int .i64 d.room, .int .i64 d.next]) (by simp [results, Tryz.results97, go_sem, z0, z1, z2, z3, z4, z5]) rfl ⟨_, _, rfl, hdz, SM2.out, hcz, by first | exact hgz | exact ⟨hgz.os, hgz.tape, hgz.output, hgz.size, hgz.block⟩⟩
    · have i1 : ¬ (0 : Int) < (d.nodes.length : Int) := by omega
      obtain ⟨Z, hZ, hbz, hdz, hcz, hgz⟩ : ∃ Z, ((((((w3).setCell ⟨w.heap.size, 0, none⟩ (.slice aN d.nodes.length cN)).setCell ⟨w.heap.size, 1, none⟩ (.slice aE d.ents.length cE)).setCell ⟨w.heap.size, 2, none⟩ (.slice aO d.old.length cO)).setCell ⟨w.heap.size, 3, none⟩ (.slice aS d.steps.length cS)).setCell ⟨w.heap.size, 4, none⟩ (.int .i64 d.room)).setCell ⟨w.heap.size, 5, none⟩ (.int .i64 d.next) = Z ∧ disk.Box Z w.heap.size [.slice aN d.nodes.length cN, .slice aE d.ents.length cE, .slice aO d.old.length cO, .slice aS d.steps.length cS, .int .i64 d.room, .int .i64 d.next] ∧ OwnDisk w.heap.size Z (.agg #[.slice aN d.nodes.length cN, .slice aE d.ents.length cE, .slice aO d.old.length cO, .slice aS d.steps.length cS, .int .i64 d.room, .int .i64 d.next]) (d) ∧ Cur Z c a len cap ∧ w.grownBy Z (some c) := H.out.ret
      have z0 := hbz.at 0 _ rfl
      have z1 := hbz.at 1 _ rfl
      have z2 := hbz.at 2 _ rfl
      have z3 := hbz.at 3 _ rfl
      have z4 := hbz.at 4 _ rfl
      have z5 := hbz.at 5 _ rfl
      have HZ := Lib.hid hZ
      clear hZ hbz
      go_wp2
      rw [HZ.out]
      refine bodyPost_ret (v := .agg #[.slice aN d.nodes.length cN, .slice aE d.ents.length cE, .slice aO d.old.length cO, .slice aS d.steps.length cS, .int .i64 d.room, .int .i64 d.next]) (by simp [results, Tryz.results97, go_sem, z0, z1, z2, z3, z4, z5]) rfl ⟨_, _, rfl, hdz, (SM.out.mono (show 6400 ≤ 6800 by decide)), hcz, by first | exact hgz | exact ⟨hgz.os, hgz.tape, hgz.output, hgz.size, hgz.block⟩⟩
  · by_cases hn : 1 < d.nodes.length
    · have i1 : (1 : Int) < (d.nodes.length : Int) := by omega
      have i2 : (0 : Int) < (d.nodes.length : Int) := by omega
      obtain ⟨gi, hgi, hge, hgl⟩ : ∃ g, aN = some ⟨g, 0, none⟩ ∧ W.heap.size ≤ g ∧ g < w3.heap.size := by
        obtain ⟨a', c', he, _, h0⟩ := own_shape H.out.rowN
        simp only [Value.slice.injEq] at he
        obtain ⟨rfl, _⟩ := he
        exact h0.resolve_left (by omega)
      subst hgi
      obtain ⟨nd, hx0⟩ : ∃ nd, d.nodes[0]? = some nd := ⟨_, List.getElem?_eq_getElem (by omega)⟩
      obtain ⟨ne, hx1⟩ : ∃ ne, d.nodes[1]? = some ne := ⟨_, List.getElem?_eq_getElem hn⟩
      have HX0 := Lib.hid hx0
      have HX1 := Lib.hid hx1
      clear hx0 hx1
      obtain ⟨gj, oj, hgj, _, _, c00, c01, c02⟩ := H.out.atN.nth HX0.out; obtain ⟨rfl, rfl⟩ : gi = gj ∧ 0 = oj := (by simpa using hgj); simp only [Nat.zero_add, Nat.zero_mul] at c00 c01 c02
      obtain ⟨gj, oj, hgj, _, _, c10, c11, c12⟩ := H.out.atN.nth HX1.out; obtain ⟨rfl, rfl⟩ : gi = gj ∧ 0 = oj := (by simpa using hgj); simp only [Nat.zero_add, Nat.one_mul] at c10 c11 c12
      have f3 := H.out.rowN.frozenAt 3
      have SM2 := Lib.hid ((sm_set (t := 0) (k := 1) (m := (nd.1, ne.2.1, ne.2.2)) SM.out (by decide) HX1.out ⟨(SM.out.wf.1 _ (List.mem_of_getElem? HX0.out)).1, (SM.out.wf.1 _ (List.mem_of_getElem? HX1.out)).2.2⟩ (Nat.le_refl _) (Nat.zero_le _)).mono (show 6400 + 400 ≤ 6800 by decide))
      obtain ⟨Y, hY, H5⟩ : ∃ Y, w3.setCell ⟨gi, 3, none⟩ (.int .i64 nd.1) = Y ∧ Rig W.heap.size B0 c a len cap w Y w1.heap.size w.heap.size (.slice (some ⟨gi, 0, none⟩) d.nodes.length cN) (.slice aE d.ents.length cE) (.slice aO d.old.length cO) (.slice aS d.steps.length cS) { d with nodes := d.nodes.set 1 (nd.1, ne.2.1, ne.2.2) } := ⟨_, rfl, H.out.node (j := 3) (cellsN_id d.nodes 1 ne nd.1 HX1.out)⟩
      have H5 := Lib.hid H5
      have HY := Lib.hid hY
      clear hY
      go_wp2
      go_region
      rw [HY.out]
      clear x0 x1 x2 x3 x4 x5 xf q0 q1 q2 q3 q4 q5 qf
      have x0 := H5.out.box.at 0 _ rfl
      have x1 := H5.out.box.at 1 _ rfl
      have x2 := H5.out.box.at 2 _ rfl
      have x3 := H5.out.box.at 3 _ rfl
      have x4 := H5.out.box.at 4 _ rfl
      have x5 := H5.out.box.at 5 _ rfl
      have xf := H5.out.fz
      obtain ⟨u0, u1, u2, u3, u4, u5, ho⟩ := H5.out.out
      have q0 := ho.at 0 _ rfl
      have q1 := ho.at 1 _ rfl
      have q2 := ho.at 2 _ rfl
      have q3 := ho.at 3 _ rfl
      have q4 := ho.at 4 _ rfl
      have q5 := ho.at 5 _ rfl
      have qf := H5.out.fr
      clear ho
      obtain ⟨Z, hZ, hbz, hdz, hcz, hgz⟩ : ∃ Z, ((((((Y).setCell ⟨w.heap.size, 0, none⟩ (.slice (some ⟨gi, 0, none⟩) d.nodes.length cN)).setCell ⟨w.heap.size, 1, none⟩ (.slice aE d.ents.length cE)).setCell ⟨w.heap.size, 2, none⟩ (.slice aO d.old.length cO)).setCell ⟨w.heap.size, 3, none⟩ (.slice aS d.steps.length cS)).setCell ⟨w.heap.size, 4, none⟩ (.int .i64 d.room)).setCell ⟨w.heap.size, 5, none⟩ (.int .i64 d.next) = Z ∧ disk.Box Z w.heap.size [.slice (some ⟨gi, 0, none⟩) d.nodes.length cN, .slice aE d.ents.length cE, .slice aO d.old.length cO, .slice aS d.steps.length cS, .int .i64 d.room, .int .i64 d.next] ∧ OwnDisk w.heap.size Z (.agg #[.slice (some ⟨gi, 0, none⟩) d.nodes.length cN, .slice aE d.ents.length cE, .slice aO d.old.length cO, .slice aS d.steps.length cS, .int .i64 d.room, .int .i64 d.next]) ({ d with nodes := d.nodes.set 1 (nd.1, ne.2.1, ne.2.2) }) ∧ Cur Z c a len cap ∧ w.grownBy Z (some c) := H5.out.ret
      have z0 := hbz.at 0 _ rfl
      have z1 := hbz.at 1 _ rfl
      have z2 := hbz.at 2 _ rfl
      have z3 := hbz.at 3 _ rfl
      have z4 := hbz.at 4 _ rfl
      have z5 := hbz.at 5 _ rfl
      have HZ := Lib.hid hZ
      clear hZ hbz
      go_wp2
      rw [HZ.out]
      refine bodyPost_ret (v := .agg #[.slice (some ⟨gi, 0, none⟩) d.nodes.length cN, .slice aE d.ents.length cE, .slice aO d.old.length cO, .slice aS d.steps.length cS, .int .i64 d.room, .int .i64 d.next]) (by simp [results, Tryz.results97, go_sem, z0, z1, z2, z3, z4, z5]) rfl ⟨_, _, rfl, hdz, SM2.out, hcz, by first | exact hgz | exact ⟨hgz.os, hgz.tape, hgz.output, hgz.size, hgz.block⟩⟩
    · have i1 : ¬ (1 : Int) < (d.nodes.length : Int) := by omega
      obtain ⟨Z, hZ, hbz, hdz, hcz, hgz⟩ : ∃ Z, ((((((w3).setCell ⟨w.heap.size, 0, none⟩ (.slice aN d.nodes.length cN)).setCell ⟨w.heap.size, 1, none⟩ (.slice aE d.ents.length cE)).setCell ⟨w.heap.size, 2, none⟩ (.slice aO d.old.length cO)).setCell ⟨w.heap.size, 3, none⟩ (.slice aS d.steps.length cS)).setCell ⟨w.heap.size, 4, none⟩ (.int .i64 d.room)).setCell ⟨w.heap.size, 5, none⟩ (.int .i64 d.next) = Z ∧ disk.Box Z w.heap.size [.slice aN d.nodes.length cN, .slice aE d.ents.length cE, .slice aO d.old.length cO, .slice aS d.steps.length cS, .int .i64 d.room, .int .i64 d.next] ∧ OwnDisk w.heap.size Z (.agg #[.slice aN d.nodes.length cN, .slice aE d.ents.length cE, .slice aO d.old.length cO, .slice aS d.steps.length cS, .int .i64 d.room, .int .i64 d.next]) (d) ∧ Cur Z c a len cap ∧ w.grownBy Z (some c) := H.out.ret
      have z0 := hbz.at 0 _ rfl
      have z1 := hbz.at 1 _ rfl
      have z2 := hbz.at 2 _ rfl
      have z3 := hbz.at 3 _ rfl
      have z4 := hbz.at 4 _ rfl
      have z5 := hbz.at 5 _ rfl
      have HZ := Lib.hid hZ
      clear hZ hbz
      go_wp2
      rw [HZ.out]
      refine bodyPost_ret (v := .agg #[.slice aN d.nodes.length cN, .slice aE d.ents.length cE, .slice aO d.old.length cO, .slice aS d.steps.length cS, .int .i64 d.room, .int .i64 d.next]) (by simp [results, Tryz.results97, go_sem, z0, z1, z2, z3, z4, z5]) rfl ⟨_, _, rfl, hdz, (SM.out.mono (show 6400 ≤ 6800 by decide)), hcz, by first | exact hgz | exact ⟨hgz.os, hgz.tape, hgz.output, hgz.size, hgz.block⟩⟩
  · obtain ⟨Z, hZ, hbz, hdz, hcz, hgz⟩ : ∃ Z, ((((((w3).setCell ⟨w.heap.size, 0, none⟩ (.slice aN d.nodes.length cN)).setCell ⟨w.heap.size, 1, none⟩ (.slice aE d.ents.length cE)).setCell ⟨w.heap.size, 2, none⟩ (.slice aO d.old.length cO)).setCell ⟨w.heap.size, 3, none⟩ (.slice aS d.steps.length cS)).setCell ⟨w.heap.size, 4, none⟩ (.int .i64 d.room)).setCell ⟨w.heap.size, 5, none⟩ (.int .i64 d.next) = Z ∧ disk.Box Z w.heap.size [.slice aN d.nodes.length cN, .slice aE d.ents.length cE, .slice aO d.old.length cO, .slice aS d.steps.length cS, .int .i64 d.room, .int .i64 d.next] ∧ OwnDisk w.heap.size Z (.agg #[.slice aN d.nodes.length cN, .slice aE d.ents.length cE, .slice aO d.old.length cO, .slice aS d.steps.length cS, .int .i64 d.room, .int .i64 d.next]) (d) ∧ Cur Z c a len cap ∧ w.grownBy Z (some c) := H.out.ret
    have z0 := hbz.at 0 _ rfl
    have z1 := hbz.at 1 _ rfl
    have z2 := hbz.at 2 _ rfl
    have z3 := hbz.at 3 _ rfl
    have z4 := hbz.at 4 _ rfl
    have z5 := hbz.at 5 _ rfl
    have HZ := Lib.hid hZ
    clear hZ hbz
    go_wp2
    rw [HZ.out]
    refine bodyPost_ret (v := .agg #[.slice aN d.nodes.length cN, .slice aE d.ents.length cE, .slice aO d.old.length cO, .slice aS d.steps.length cS, .int .i64 d.room, .int .i64 d.next]) (by simp [results, Tryz.results97, go_sem, z0, z1, z2, z3, z4, z5]) rfl ⟨_, _, rfl, hdz, (SM.out.mono (show 6400 ≤ 6800 by decide)), hcz, by first | exact hgz | exact ⟨hgz.os, hgz.tape, hgz.output, hgz.size, hgz.block⟩⟩

end Go.Proofs.YtiehfobcbhgfkaaGreatDoor.deed
