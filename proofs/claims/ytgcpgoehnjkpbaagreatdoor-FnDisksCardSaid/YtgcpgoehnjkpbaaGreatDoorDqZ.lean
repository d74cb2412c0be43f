/-
  Draws of disks: spec.l05Any.
-/
import Derived.Test.YtgcpgoehnjkpbaaGreatDoorDqY
import Derived.Test.YtgcpgoehnjkpbaaGreatDoorIkX
import Derived.Test.YtgcpgoehnjkpbaaGreatDoorBig
namespace Go.Proofs.YtgcpgoehnjkpbaaGreatDoor.deed
open Go.RowKit
open kit strs recs disk kd draw

theorem sm_room {K : Nat} {d : D} {x : Int} (h : Sm K d) (hx : wfI x) : Sm K { d with room := x } := by
  obtain ⟨wN, wE, wO, wS, wR, wX, m1, m2, m3, m4⟩ := h.wf
  exact ⟨⟨wN, wE, wO, wS, hx, wX, m1, m2, m3, m4⟩, h.n, h.e, h.o, h.s⟩
theorem sm_next {K : Nat} {d : D} {x : Int} (h : Sm K d) (hx : wfI x) : Sm K { d with next := x } := by
  obtain ⟨wN, wE, wO, wS, wR, wX, m1, m2, m3, m4⟩ := h.wf
  exact ⟨⟨wN, wE, wO, wS, wR, hx, m1, m2, m3, m4⟩, h.n, h.e, h.o, h.s⟩
theorem wfE_app {xs : List Ent} {e : Ent} (h : wfE xs) (he : e.1.size ≤ maxLen ∧ wfI e.2) : wfE (xs ++ [e]) := fun y hy => by
  rcases List.mem_append.1 hy with hy | hy
  · exact h y hy
  · obtain rfl := List.mem_singleton.1 hy
    exact he
theorem sm_ents {K : Nat} {d : D} {e : Ent} (h : Sm K d) (hK : K ≤ 200000) (he : e.1.size ≤ 20 ∧ wfI e.2) : Sm (K + 400) { d with ents := d.ents ++ [e] } := by
  obtain ⟨wN, wE, wO, wS, wR, wX, m1, m2, m3, m4⟩ := h.wf
  have hl := bulkE_len d.ents
  have hb := h.e
  refine ⟨⟨wN, wfE_app wE ⟨by unfold maxLen; omega, he.2⟩, wO, wS, wR, wX, m1, ?_, m3, m4⟩, Nat.le_trans h.n (by omega), ?_, Nat.le_trans h.o (by omega), Nat.le_trans h.s (by omega)⟩
  · show (d.ents ++ [e]).length ≤ maxLen
    rw [List.length_append]
    unfold maxLen
    simp
    omega
  · show bulkE (d.ents ++ [e]) ≤ _
    rw [bulkE_app, bulkE_one]
    omega
theorem sm_old {K : Nat} {d : D} {e : Ent} (h : Sm K d) (hK : K ≤ 200000) (he : e.1.size ≤ 20 ∧ wfI e.2) : Sm (K + 400) { d with old := d.old ++ [e] } := by
  obtain ⟨wN, wE, wO, wS, wR, wX, m1, m2, m3, m4⟩ := h.wf
  have hl := bulkE_len d.old
  have hb := h.o
  refine ⟨⟨wN, wE, wfE_app wO ⟨by unfold maxLen; omega, he.2⟩, wS, wR, wX, m1, m2, ?_, m4⟩, Nat.le_trans h.n (by omega), Nat.le_trans h.e (by omega), ?_, Nat.le_trans h.s (by omega)⟩
  · show (d.old ++ [e]).length ≤ maxLen
    rw [List.length_append]
    unfold maxLen
    simp
    omega
  · show bulkE (d.old ++ [e]) ≤ _
    rw [bulkE_app, bulkE_one]
    omega
theorem sm_steps {K : Nat} {d : D} {s : ByteArray} (h : Sm K d) (hK : K ≤ 200000) (hs : s.size ≤ 20) : Sm (K + 400) { d with steps := d.steps ++ [s] } := by
  obtain ⟨wN, wE, wO, wS, wR, wX, m1, m2, m3, m4⟩ := h.wf
  have hb := h.s
  have hm := steps_more d.steps s
  refine ⟨⟨wN, wE, wO, wfS_more wS (by unfold maxLen; omega), wR, wX, m1, m2, m3, ?_⟩, Nat.le_trans h.n (by omega), Nat.le_trans h.e (by omega), Nat.le_trans h.o (by omega), ?_⟩
  · show (d.steps ++ [s]).length ≤ maxLen
    rw [List.length_append]
    unfold maxLen
    simp
    omega
  · show (d.steps ++ [s]).length + tot (d.steps ++ [s]) ≤ _
    omega
theorem cellsN_id : ∀ (xs : List Nod) (k : Nat) (n : Nod) (i : Int), xs[k]? = some n → (cellsN xs).set (k * 3) (.int .i64 i) = cellsN (xs.set k (i, n.2.1, n.2.2))
  | [], k, n, t, h => by simp at h
  | x :: r, 0, n, t, h => by
    obtain rfl : x = n := by simpa using h
    simp [cellsN]
  | x :: r, k + 1, n, j, h => by
    have ih := cellsN_id r k n j (by simpa using h)
    have e : cellsN (x :: r) = [.int .i64 x.1, .string x.2.1, .int .i64 x.2.2] ++ cellsN r := by simp [cellsN]
    have e2 : cellsN ((x :: r).set (k + 1) (j, n.2.1, n.2.2)) = [.int .i64 x.1, .string x.2.1, .int .i64 x.2.2] ++ cellsN (r.set k (j, n.2.1, n.2.2)) := by simp [cellsN]
    rw [e, e2, ← ih, List.set_append_right _ _ (by simp; omega)]
    congr 2
    simp
    omega
theorem Rig.rowE {B B0 c len cap b r : Nat} {a : Option Addr} {w wr : World} {sN sO sS : Value} {aE : Option Addr} {cE : Nat} {d : D} (h : Rig B B0 c a len cap w wr b r sN (.slice aE d.ents.length cE) sO sS d) : wr.ownsRow B 79 2 (.slice aE d.ents.length cE) d.ents.length (cellsE d.ents) := by
  obtain ⟨_, _, _, _, nN, nE, nO, nS, hv, rN, rE, rO, rS, _⟩ := h.own
  simp only [Value.agg.injEq, Array.mk.injEq, List.cons.injEq] at hv
  obtain ⟨rfl, rfl, rfl, rfl, _⟩ := hv
  have := rE.1
  rw [cellsE_len] at this
  obtain rfl : nE = d.ents.length := by omega
  exact rE
theorem Rig.rowO {B B0 c len cap b r : Nat} {a : Option Addr} {w wr : World} {sN sE sS : Value} {aO : Option Addr} {cO : Nat} {d : D} (h : Rig B B0 c a len cap w wr b r sN sE (.slice aO d.old.length cO) sS d) : wr.ownsRow B 79 2 (.slice aO d.old.length cO) d.old.length (cellsE d.old) := by
  obtain ⟨_, _, _, _, nN, nE, nO, nS, hv, rN, rE, rO, rS, _⟩ := h.own
  simp only [Value.agg.injEq, Array.mk.injEq, List.cons.injEq] at hv
  obtain ⟨rfl, rfl, rfl, rfl, _⟩ := hv
  have := rO.1
  rw [cellsE_len] at this
  obtain rfl : nO = d.old.length := by omega
  exact rO
theorem Rig.rowS {B B0 c len cap b r : Nat} {a : Option Addr} {w wr : World} {sN sE sO : Value} {aS : Option Addr} {cS : Nat} {d : D} (h : Rig B B0 c a len cap w wr b r sN sE sO (.slice aS d.steps.length cS) d) : wr.ownsRow B 9 1 (.slice aS d.steps.length cS) d.steps.length (d.steps.map Value.string) := by
  obtain ⟨_, _, _, _, nN, nE, nO, nS, hv, rN, rE, rO, rS, _⟩ := h.own
  simp only [Value.agg.injEq, Array.mk.injEq, List.cons.injEq] at hv
  obtain ⟨rfl, rfl, rfl, rfl, _⟩ := hv
  have := rS.1
  rw [List.length_map, Nat.mul_one] at this
  obtain rfl : nS = d.steps.length := by omega
  exact rS
theorem Rig.rowN {B B0 c len cap b r : Nat} {a : Option Addr} {w wr : World} {sE sO sS : Value} {aN : Option Addr} {cN : Nat} {d : D} (h : Rig B B0 c a len cap w wr b r (.slice aN d.nodes.length cN) sE sO sS d) : wr.ownsRow B 38 3 (.slice aN d.nodes.length cN) d.nodes.length (cellsN d.nodes) := by
  obtain ⟨_, _, _, _, nN, nE, nO, nS, hv, rN, rE, rO, rS, _⟩ := h.own
  simp only [Value.agg.injEq, Array.mk.injEq, List.cons.injEq] at hv
  obtain ⟨rfl, rfl, rfl, rfl, _⟩ := hv
  have := rN.1
  rw [cellsN_len] at this
  obtain rfl : nN = d.nodes.length := by omega
  exact rN

theorem Rig.atN {B B0 c len cap b r : Nat} {a : Option Addr} {w wr : World} {sE sO sS : Value} {aN : Option Addr} {n cN : Nat} {d : D} (h : Rig B B0 c a len cap w wr b r (.slice aN n cN) sE sO sS d) : AtN wr aN n d.nodes := by
  obtain ⟨aN, aE, aO, aS, nN, cN, nE, cE, nO, cO, nS, cS, hv, h1, h2, h3, h4⟩ := h.own.is
  simp only [Value.agg.injEq, Array.mk.injEq, List.cons.injEq, Value.slice.injEq] at hv
  obtain ⟨⟨rfl, rfl, rfl⟩, _⟩ := hv
  exact h1

set_option maxHeartbeats 16000000 in
set_option maxRecDepth 100000 in
theorem any_any (B0 c : Nat) (a : Option Addr) (len cap : Nat) (w : World) (hBc : B0 ≤ c) (hcw : c < w.heap.size) (hc : CodeAt w B0 a len) (hu : Cur w c a len cap) :
    Calls Tryz.prog 62 #[.pointer (some ⟨c, 0, none⟩)] w (PostD 6800 c a len cap w) := by
  obtain ⟨W, hW⟩ : ∃ W, W = w.alloc (.cells #[.slice none 0 0, .slice none 0 0, .slice none 0 0, .slice none 0 0, .int .i64 0, .int .i64 0] 28) := ⟨_, rfl⟩
  have hWB : Below w.heap.size w W := by rw [hW]; exact (Below.refl _ _).alloc (Nat.le_refl _) _
  have hsz : w.heap.size + 1 = W.heap.size := by rw [hW]; simp
  have br := show disk.Box W w.heap.size [.slice none 0 0, .slice none 0 0, .slice none 0 0, .slice none 0 0, .int .i64 0, .int .i64 0] from by rw [hW]; exact Box.new w #[.slice none 0 0, .slice none 0 0, .slice none 0 0, .slice none 0 0, .int .i64 0, .int .i64 0] _
  have fr : ∀ j, W.frozen? ⟨w.heap.size, j, none⟩ = false := fun j => by rw [hW]; simp
  have cW := hc.below (hWB.mono (by omega))
  have uW := hu.below (hWB.mono (by omega))
  have BR := Lib.hid br
  have FR := Lib.hid fr
  have HW := Lib.hid hWB
  clear br fr hWB hc hu
  go_enter Tryz.func62, Tryz.ntmps62
  go_wp2_with (fail)
  rw [← hW]
  clear hW
  refine (disk_any B0 c a len cap W hBc (by omega) cW uW).mono ?_
  rintro e w1 ⟨u, d, rfl, hd, sm, u1, g1⟩
  have code1 := cW.grown hBc (by omega) g1
  have hs1 := g1.size
  obtain ⟨aN, aE, aO, aS, cN, cE, cO, cS, rfl⟩ := own_slices hd
  obtain ⟨V, hV⟩ : ∃ V, V = w1.alloc (.cells #[.slice aN d.nodes.length cN, .slice aE d.ents.length cE, .slice aO d.old.length cO, .slice aS d.steps.length cS, .int .i64 d.room, .int .i64 d.next] 28) := ⟨_, rfl⟩
  have bV : Below w1.heap.size w1 V := by rw [hV]; exact (Below.refl _ _).alloc (Nat.le_refl _) _
  have sV : V.heap.size = w1.heap.size + 1 := by rw [hV]; simp
  have br1 := box_keep BR.out g1 (by omega)
  have fr1 := frozen_keep FR.out BR.out.1 g1 (by omega)
  have H0 : Rig W.heap.size B0 c a len cap w V w1.heap.size w.heap.size (.slice aN d.nodes.length cN) (.slice aE d.ents.length cE) (.slice aO d.old.length cO) (.slice aS d.steps.length cS) d := by
    refine ⟨?_, ?_, ⟨_, by rw [hV]; exact heap_alloc_new w1 _⟩, ⟨_, _, _, _, _, _, br1.below bV⟩, frozen_below fr1 br1.1 bV, disk_below hd bV, u1.below (bV.mono (by omega)), code1.below (bV.mono (by omega)), grown_below (grown_trans (grown_below (grown_refl w (some c)) HW.out) g1) (bV.mono (by omega)), by omega, by omega, Nat.le_refl _, by omega, by omega, by omega, hBc, hcw⟩
    · rw [hV]; exact Box.new w1 #[.slice aN d.nodes.length cN, .slice aE d.ents.length cE, .slice aO d.old.length cO, .slice aS d.steps.length cS, .int .i64 d.room, .int .i64 d.next] _
    · intro j; rw [hV]; simp
  have H0 := Lib.hid H0
  have SM := Lib.hid sm
  clear hd u1 g1 code1 bV br1 fr1 BR FR HW cW uW sm
  go_wp2_with (fail)
  rw [← hV]
  clear hV
  refine (below_any B0 c a len cap 16 V hBc H0.out.lt.2 H0.out.code H0.out.cur (by omega) (by omega)).mono ?_
  rintro e w3 ⟨⟨y, l3, m3, rfl⟩, u3, g3⟩
  have H := Lib.hid (H0.out.draw g3 u3)
  clear H0 g3 u3
  have x0 := H.out.box.at 0 _ rfl
  have x1 := H.out.box.at 1 _ rfl
  have x2 := H.out.box.at 2 _ rfl
  have x3 := H.out.box.at 3 _ rfl
  have x4 := H.out.box.at 4 _ rfl
  have x5 := H.out.box.at 5 _ rfl
  have xf := H.out.fz
  obtain ⟨u0, u1, u2, u3, u4, u5, ho⟩ := H.out.out
  have q0 := ho.at 0 _ rfl
  have q1 := ho.at 1 _ rfl
  have q2 := ho.at 2 _ rfl
  have q3 := ho.at 3 _ rfl
  have q4 := ho.at 4 _ rfl
  have q5 := ho.at 5 _ rfl
  have qf := H.out.fr
  clear ho
  have zb := H.out.box.1
  have hnb : ¬ w1.heap.size = w.heap.size := H.out.ne
  have hnb2 : ¬ w.heap.size = w1.heap.size := fun e => H.out.ne e.symm
  have LL : d.nodes.length ≤ 6400 ∧ d.ents.length ≤ 6400 ∧ d.old.length ≤ 6400 ∧ d.steps.length ≤ 6400 := by
    have h1 := SM.out.n
    have h2 := SM.out.e
    have h3 := SM.out.o
    have h4 := SM.out.s
    unfold bulkN at h1
    unfold bulkE at h2 h3
    simp only [List.length_map] at h1 h2 h3
    omega
  have HLL := Lib.hid LL
  clear LL
  rcases (show y = 0 ∨ y = 1 ∨ y = 2 ∨ y = 3 ∨ y = 4 ∨ y = 5 ∨ y = 6 ∨ (¬ y = 0 ∧ ¬ y = 1 ∧ ¬ y = 2 ∧ ¬ y = 3 ∧ ¬ y = 4 ∧ ¬ y = 5 ∧ ¬ y = 6) by omega) with rfl | rfl | rfl | rfl | rfl | rfl | rfl | ⟨n0, n1, n2, n3, n4, n5, n6⟩
  · go_wp2_with (fail)
    refine (pickInt_new B0 c 4 a len cap [-1, 0, 5, 1000000001] w3 hBc H.out.lt.1 H.out.code H.out.cur rfl (by decide) (by decide)).mono ?_
    rintro e w4 ⟨x, hx, rfl, u4, g4⟩
    have hx2 : wfI x := by
      unfold wfI
      simp only [List.mem_cons, List.not_mem_nil, or_false] at hx
      omega
    have H4 := Lib.hid (H.out.draw g4 u4)
    clear x0 x1 x2 x3 x4 x5 xf q0 q1 q2 q3 q4 q5 qf u4 g4 hx
    have x0 := H4.out.box.at 0 _ rfl
    have x1 := H4.out.box.at 1 _ rfl
    have x2 := H4.out.box.at 2 _ rfl
    have x3 := H4.out.box.at 3 _ rfl
    have x4 := H4.out.box.at 4 _ rfl
    have x5 := H4.out.box.at 5 _ rfl
    have xf := H4.out.fz
    obtain ⟨u0, u1, u2, u3, u4, u5, ho⟩ := H4.out.out
    have q0 := ho.at 0 _ rfl
    have q1 := ho.at 1 _ rfl
    have q2 := ho.at 2 _ rfl
    have q3 := ho.at 3 _ rfl
    have q4 := ho.at 4 _ rfl
    have q5 := ho.at 5 _ rfl
    have qf := H4.out.fr
    clear ho
    have H5 := Lib.hid (H4.out.room x)
    have SM2 := Lib.hid ((sm_room SM.out hx2).mono (show 6400 ≤ 6800 by decide))
    obtain ⟨Z, hZ, hbz, hdz, hcz, hgz⟩ : ∃ Z, ((((((w4.setCell ⟨w1.heap.size, 4, none⟩ (.int .i64 x)).setCell ⟨w.heap.size, 0, none⟩ (.slice aN d.nodes.length cN)).setCell ⟨w.heap.size, 1, none⟩ (.slice aE d.ents.length cE)).setCell ⟨w.heap.size, 2, none⟩ (.slice aO d.old.length cO)).setCell ⟨w.heap.size, 3, none⟩ (.slice aS d.steps.length cS)).setCell ⟨w.heap.size, 4, none⟩ (.int .i64 x)).setCell ⟨w.heap.size, 5, none⟩ (.int .i64 d.next) = Z ∧ disk.Box Z w.heap.size [.slice aN d.nodes.length cN, .slice aE d.ents.length cE, .slice aO d.old.length cO, .slice aS d.steps.length cS, .int .i64 x, .int .i64 d.next] ∧ OwnDisk w.heap.size Z (.agg #[.slice aN d.nodes.length cN, .slice aE d.ents.length cE, .slice aO d.old.length cO, .slice aS d.steps.length cS, .int .i64 x, .int .i64 d.next]) ({ d with room := x }) ∧ Cur Z c a len cap ∧ w.grownBy Z (some c) := H5.out.ret
    have z0 := hbz.at 0 _ rfl
    have z1 := hbz.at 1 _ rfl
    have z2 := hbz.at 2 _ rfl
    have z3 := hbz.at 3 _ rfl
    have z4 := hbz.at 4 _ rfl
    have z5 := hbz.at 5 _ rfl
    have HZ := Lib.hid hZ
    clear hZ hbz
    go_wp2
    rw [HZ.out]
    refine bodyPost_ret (v := .agg #[.slice aN d.nodes.length cN, .slice aE d.ents.length cE, .slice aO d.old.length cO, .slice aS d.steps.length cS, .int .i64 x, .int .i64 d.next]) (by simp [results, Tryz.results62, go_sem, z0, z1, z2, z3, z4, z5]) rfl ⟨_, _, rfl, hdz, SM2.out, hcz, by first | exact hgz | exact ⟨hgz.os, hgz.tape, hgz.output, hgz.size, hgz.block⟩⟩
  · go_wp2_with (fail)
    refine (pickInt_new B0 c 5 a len cap [0, 1, 2, -1, 9223372036854775807] w3 hBc H.out.lt.1 H.out.code H.out.cur rfl (by decide) (by decide)).mono ?_
    rintro e w4 ⟨x, hx, rfl, u4, g4⟩
    have hx2 : wfI x := by
      unfold wfI
      simp only [List.mem_cons, List.not_mem_nil, or_false] at hx
      omega
    have H4 := Lib.hid (H.out.draw g4 u4)
    clear x0 x1 x2 x3 x4 x5 xf q0 q1 q2 q3 q4 q5 qf u4 g4 hx
    have x0 := H4.out.box.at 0 _ rfl
    have x1 := H4.out.box.at 1 _ rfl
    have x2 := H4.out.box.at 2 _ rfl
    have x3 := H4.out.box.at 3 _ rfl
    have x4 := H4.out.box.at 4 _ rfl
    have x5 := H4.out.box.at 5 _ rfl
    have xf := H4.out.fz
    obtain ⟨u0, u1, u2, u3, u4, u5, ho⟩ := H4.out.out
    have q0 := ho.at 0 _ rfl
    have q1 := ho.at 1 _ rfl
    have q2 := ho.at 2 _ rfl
    have q3 := ho.at 3 _ rfl
    have q4 := ho.at 4 _ rfl
    have q5 := ho.at 5 _ rfl
    have qf := H4.out.fr
    clear ho
    have H5 := Lib.hid (H4.out.next x)
    have SM2 := Lib.hid ((sm_next SM.out hx2).mono (show 6400 ≤ 6800 by decide))
    obtain ⟨Z, hZ, hbz, hdz, hcz, hgz⟩ : ∃ Z, ((((((w4.setCell ⟨w1.heap.size, 5, none⟩ (.int .i64 x)).setCell ⟨w.heap.size, 0, none⟩ (.slice aN d.nodes.length cN)).setCell ⟨w.heap.size, 1, none⟩ (.slice aE d.ents.length cE)).setCell ⟨w.heap.size, 2, none⟩ (.slice aO d.old.length cO)).setCell ⟨w.heap.size, 3, none⟩ (.slice aS d.steps.length cS)).setCell ⟨w.heap.size, 4, none⟩ (.int .i64 d.room)).setCell ⟨w.heap.size, 5, none⟩ (.int .i64 x) = Z ∧ disk.Box Z w.heap.size [.slice aN d.nodes.length cN, .slice aE d.ents.length cE, .slice aO d.old.length cO, .slice aS d.steps.length cS, .int .i64 d.room, .int .i64 x] ∧ OwnDisk w.heap.size Z (.agg #[.slice aN d.nodes.length cN, .slice aE d.ents.length cE, .slice aO d.old.length cO, .slice aS d.steps.length cS, .int .i64 d.room, .int .i64 x]) ({ d with next := x }) ∧ Cur Z c a len cap ∧ w.grownBy Z (some c) := H5.out.ret
    have z0 := hbz.at 0 _ rfl
    have z1 := hbz.at 1 _ rfl
    have z2 := hbz.at 2 _ rfl
    have z3 := hbz.at 3 _ rfl
    have z4 := hbz.at 4 _ rfl
    have z5 := hbz.at 5 _ rfl
    have HZ := Lib.hid hZ
    clear hZ hbz
    go_wp2
    rw [HZ.out]
    refine bodyPost_ret (v := .agg #[.slice aN d.nodes.length cN, .slice aE d.ents.length cE, .slice aO d.old.length cO, .slice aS d.steps.length cS, .int .i64 d.room, .int .i64 x]) (by simp [results, Tryz.results62, go_sem, z0, z1, z2, z3, z4, z5]) rfl ⟨_, _, rfl, hdz, SM2.out, hcz, by first | exact hgz | exact ⟨hgz.os, hgz.tape, hgz.output, hgz.size, hgz.block⟩⟩
  · obtain ⟨i0, hi, hz0, hz1, hz2⟩ := info_parts Tryz.infoEnt
    have bn : d.ents.length + 1 ≤ maxLen := by have := HLL.out; unfold maxLen; omega
    have bm : (d.ents.length + 1) * 24 ≤ 140737488355328 := by have := HLL.out; omega
    have Hd := Lib.hid (H.out.below ((Below.refl w3.heap.size w3).drew))
    go_wp2
    go_region_law (first | (go_simp; go_at_call 77; refine (below_any B0 c a len cap 4 w3.drew hBc Hd.out.lt.2 Hd.out.code Hd.out.cur (by omega) (by omega)).mono ?_; rintro e w4 ⟨⟨q, l7, m7, rfl⟩, u4, g4⟩; have H4 := Lib.hid (Hd.out.draw g4 u4); have v0 := H4.out.box.at 0 _ rfl; have v1 := H4.out.box.at 1 _ rfl; have v2 := H4.out.box.at 2 _ rfl; have v3 := H4.out.box.at 3 _ rfl; have v4 := H4.out.box.at 4 _ rfl; have v5 := H4.out.box.at 5 _ rfl; have zb4 := H4.out.box.1; have hya := (Below.refl w4.heap.size w4).alloc (Nat.le_refl _) (.cells #[.string { data := #[122] }, .int .i64 q] 79); have Ha := Lib.hid (H4.out.below hya); have RS := Lib.hid Ha.out.rowE; have ZS := Lib.hid Ha.out.hs; clear hya; have CS := Lib.hid (cells_new2 w4 (.string { data := #[122] }) (.int .i64 q) 79)) | (refine step_copy2 (by rfl) (.tmp 23) (.tmp 27) 25 (by rfl) W.heap.size 79 i0 (.agg #[.string { data := #[] }, .int .i64 0]) 2 24 Tryz.underlying25 hi hz0 hz1 hz2 (by rfl) (by decide) _ d.ents.length (cellsE d.ents) RS.out ZS.out ⟨w4.heap.size, 0, none⟩ 1 1 [.string { data := #[122] }, .int .i64 q] CS.out (two_one _ _) (by decide) bn bm (by rfl) (by rfl) ?_; intro v6 w6 hown6 hg6 hf6; obtain ⟨a6, c6, rfl, _, _⟩ := own_shape hown6; have m6 := Ha.out.mid RS.out (by decide) hg6; have e0 := m6.1.at 0 _ rfl; have e1 := m6.1.at 1 _ rfl; have e2 := m6.1.at 2 _ rfl; have e3 := m6.1.at 3 _ rfl; have e4 := m6.1.at 4 _ rfl; have e5 := m6.1.at 5 _ rfl; have ef := m6.2; have H5 := Lib.hid (Ha.out.ents (es := d.ents ++ [({ data := #[122] }, q)]) hg6 (by rw [cellsE_app]; exact hown6) (by rw [cellsE_app]; exact hf6)); clear m6 hown6 hg6 hf6))
    all_goals
      have SM2 := Lib.hid ((sm_ents (e := ({ data := #[122] }, q)) SM.out (by decide) ⟨(show ({ data := #[122] } : ByteArray).size ≤ 20 by decide), by unfold wfI; omega⟩).mono (show 6400 + 400 ≤ 6800 by decide))
      clear q0 q1 q2 q3 q4 q5 qf
      obtain ⟨u0, u1, u2, u3, u4, u5, ho⟩ := H5.out.out
      have q0 := ho.at 0 _ rfl
      have q1 := ho.at 1 _ rfl
      have q2 := ho.at 2 _ rfl
      have q3 := ho.at 3 _ rfl
      have q4 := ho.at 4 _ rfl
      have q5 := ho.at 5 _ rfl
      have qf := H5.out.fr
      clear ho
      obtain ⟨Z, hZ, hbz, hdz, hcz, hgz⟩ : ∃ Z, ((((((w6.setCell ⟨w1.heap.size, 1, none⟩ (.slice a6 (d.ents.length + 1) c6)).setCell ⟨w.heap.size, 0, none⟩ (.slice aN d.nodes.length cN)).setCell ⟨w.heap.size, 1, none⟩ (.slice a6 (d.ents.length + 1) c6)).setCell ⟨w.heap.size, 2, none⟩ (.slice aO d.old.length cO)).setCell ⟨w.heap.size, 3, none⟩ (.slice aS d.steps.length cS)).setCell ⟨w.heap.size, 4, none⟩ (.int .i64 d.room)).setCell ⟨w.heap.size, 5, none⟩ (.int .i64 d.next) = Z ∧ disk.Box Z w.heap.size [.slice aN d.nodes.length cN, .slice a6 (d.ents.length + 1) c6, .slice aO d.old.length cO, .slice aS d.steps.length cS, .int .i64 d.room, .int .i64 d.next] ∧ OwnDisk w.heap.size Z (.agg #[.slice aN d.nodes.length cN, .slice a6 (d.ents.length + 1) c6, .slice aO d.old.length cO, .slice aS d.steps.length cS, .int .i64 d.room, .int .i64 d.next]) ({ d with ents := d.ents ++ [({ data := #[122] }, q)] }) ∧ Cur Z c a len cap ∧ w.grownBy Z (some c) := H5.out.ret
      have z0 := hbz.at 0 _ rfl
      have z1 := hbz.at 1 _ rfl
      have z2 := hbz.at 2 _ rfl
      have z3 := hbz.at 3 _ rfl
      have z4 := hbz.at 4 _ rfl
      have z5 := hbz.at 5 _ rfl
      have HZ := Lib.hid hZ
      clear hZ hbz
      go_wp2
      rw [HZ.out]
      refine bodyPost_ret (v := .agg #[.slice aN d.nodes.length cN, .slice a6 (d.ents.length + 1) c6, .slice aO d.old.length cO, .slice aS d.steps.length cS, .int .i64 d.room, .int .i64 d.next]) (by simp [results, Tryz.results62, go_sem, z0, z1, z2, z3, z4, z5]) rfl ⟨_, _, rfl, hdz, SM2.out, hcz, by first | exact hgz | exact ⟨hgz.os, hgz.tape, hgz.output, hgz.size, hgz.block⟩⟩
  · obtain ⟨i0, hi, hz0, hz1, hz2⟩ := info_parts Tryz.infoEnt
    have bn : d.old.length + 1 ≤ maxLen := by have := HLL.out; unfold maxLen; omega
    have bm : (d.old.length + 1) * 24 ≤ 140737488355328 := by have := HLL.out; omega
    have hya := (Below.refl w3.heap.size w3).alloc (Nat.le_refl _) (.cells #[.string { data := #[122] }, .int .i64 1] 79)
    have Ha := Lib.hid (H.out.below hya)
    have RS := Lib.hid Ha.out.rowO
    have ZS := Lib.hid Ha.out.hs
    have CS := Lib.hid (cells_new2 w3 (.string { data := #[122] }) (.int .i64 1) 79)
    clear hya
    go_wp2_with (first | (at_builtin; refine list_copy2 (by rfl) (.tmp 33) (.tmp 35) 25 (by rfl) W.heap.size 79 i0 (.agg #[.string { data := #[] }, .int .i64 0]) 2 24 Tryz.underlying25 hi hz0 hz1 hz2 (by rfl) (by decide) _ d.old.length (cellsE d.old) RS.out ZS.out ⟨w3.heap.size, 0, none⟩ 1 1 [.string { data := #[122] }, .int .i64 1] CS.out (two_one _ _) (by decide) bn bm (by rfl) (by rfl) ?_; intro v6 w6 hown6 hg6 hf6; obtain ⟨a6, c6, rfl, _, _⟩ := own_shape hown6; have m6 := Ha.out.mid RS.out (by decide) hg6; have e0 := m6.1.at 0 _ rfl; have e1 := m6.1.at 1 _ rfl; have e2 := m6.1.at 2 _ rfl; have e3 := m6.1.at 3 _ rfl; have e4 := m6.1.at 4 _ rfl; have e5 := m6.1.at 5 _ rfl; have ef := m6.2; have H5 := Lib.hid (Ha.out.old (es := d.old ++ [({ data := #[122] }, 1)]) hg6 (by rw [cellsE_app]; exact hown6) (by rw [cellsE_app]; exact hf6)); clear m6 hown6 hg6 hf6 q0 q1 q2 q3 q4 q5 qf; obtain ⟨u0, u1, u2, u3, u4, u5, ho⟩ := H5.out.out; have q0 := ho.at 0 _ rfl; have q1 := ho.at 1 _ rfl; have q2 := ho.at 2 _ rfl; have q3 := ho.at 3 _ rfl; have q4 := ho.at 4 _ rfl; have q5 := ho.at 5 _ rfl; have qf := H5.out.fr; clear ho) | fail)
    have SM2 := Lib.hid ((sm_old (e := ({ data := #[122] }, 1)) SM.out (by decide) ⟨(show ({ data := #[122] } : ByteArray).size ≤ 20 by decide), (show wfI 1 from ⟨by decide, by decide⟩)⟩).mono (show 6400 + 400 ≤ 6800 by decide))
    obtain ⟨Z, hZ, hbz, hdz, hcz, hgz⟩ : ∃ Z, ((((((w6.setCell ⟨w1.heap.size, 2, none⟩ (.slice a6 (d.old.length + 1) c6)).setCell ⟨w.heap.size, 0, none⟩ (.slice aN d.nodes.length cN)).setCell ⟨w.heap.size, 1, none⟩ (.slice aE d.ents.length cE)).setCell ⟨w.heap.size, 2, none⟩ (.slice a6 (d.old.length + 1) c6)).setCell ⟨w.heap.size, 3, none⟩ (.slice aS d.steps.length cS)).setCell ⟨w.heap.size, 4, none⟩ (.int .i64 d.room)).setCell ⟨w.heap.size, 5, none⟩ (.int .i64 d.next) = Z ∧ disk.Box Z w.heap.size [.slice aN d.nodes.length cN, .slice aE d.ents.length cE, .slice a6 (d.old.length + 1) c6, .slice aS d.steps.length cS, .int .i64 d.room, .int .i64 d.next] ∧ OwnDisk w.heap.size Z (.agg #[.slice aN d.nodes.length cN, .slice aE d.ents.length cE, .slice a6 (d.old.length + 1) c6, .slice aS d.steps.length cS, .int .i64 d.room, .int .i64 d.next]) ({ d with old := d.old ++ [({ data := #[122] }, 1)] }) ∧ Cur Z c a len cap ∧ w.grownBy Z (some c) := H5.out.ret
    have z0 := hbz.at 0 _ rfl
    have z1 := hbz.at 1 _ rfl
    have z2 := hbz.at 2 _ rfl
    have z3 := hbz.at 3 _ rfl
    have z4 := hbz.at 4 _ rfl
    have z5 := hbz.at 5 _ rfl
    have HZ := Lib.hid hZ
    clear hZ hbz
    skip
    rw [HZ.out]
    refine bodyPost_ret (v := .agg #[.slice aN d.nodes.length cN, .slice aE d.ents.length cE, .slice a6 (d.old.length + 1) c6, .slice aS d.steps.length cS, .int .i64 d.room, .int .i64 d.next]) (by simp [results, Tryz.results62, go_sem, z0, z1, z2, z3, z4, z5]) rfl ⟨_, _, rfl, hdz, SM2.out, hcz, by first | exact hgz | exact ⟨hgz.os, hgz.tape, hgz.output, hgz.size, hgz.block⟩⟩
  · obtain ⟨i0, hi, hz0, hz1, hz2⟩ := info_parts strs.Tryz.infoStr
    have bn : d.steps.length + 1 ≤ maxLen := by have := HLL.out; unfold maxLen; omega
    have bm : (d.steps.length + 1) * 16 ≤ 140737488355328 := by have := HLL.out; omega
    have Hd := Lib.hid (H.out.below ((Below.refl w3.heap.size w3).drew))
    go_wp2
    go_region_law (first | (go_simp; go_at_call 120; refine (pick_new B0 c 8 a len cap [{ data := #[45, 97] }, { data := #[43, 113, 58, 49] }, { data := #[120] }, { data := #[] }, { data := #[43, 113, 58, 57] }, { data := #[45, 122, 122] }, { data := #[43, 58, 49] }, { data := #[43, 113, 58] }] w3.drew hBc Hd.out.lt.1 Hd.out.code Hd.out.cur rfl (by decide) (by decide)).mono ?_; rintro e w4 ⟨s, hs, rfl, u4, g4⟩; have hsz2 : s.size ≤ 20 := (by simp only [List.mem_cons, List.not_mem_nil, or_false] at hs; rcases hs with rfl | rfl | rfl | rfl | rfl | rfl | rfl | rfl <;> decide); have H4 := Lib.hid (Hd.out.draw g4 u4); have v0 := H4.out.box.at 0 _ rfl; have v1 := H4.out.box.at 1 _ rfl; have v2 := H4.out.box.at 2 _ rfl; have v3 := H4.out.box.at 3 _ rfl; have v4 := H4.out.box.at 4 _ rfl; have v5 := H4.out.box.at 5 _ rfl; have zb4 := H4.out.box.1; have hya := (Below.refl w4.heap.size w4).alloc (Nat.le_refl _) (.cells #[.string s] 9); have Ha := Lib.hid (H4.out.below hya); have RS := Lib.hid Ha.out.rowS; have ZS := Lib.hid Ha.out.hs; clear hya; have CS := Lib.hid (cells_new w4 (.string s) 9); clear hs) | (refine step_copy2 (by rfl) (.tmp 41) (.tmp 45) 26 (by rfl) W.heap.size 9 i0 (.string { data := #[] }) 1 16 Tryz.underlying26 hi hz0 hz1 hz2 (by rfl) (by decide) _ d.steps.length (d.steps.map Value.string) RS.out ZS.out ⟨w4.heap.size, 0, none⟩ 1 1 [.string s] CS.out (one_str _) (by decide) bn bm (by rfl) (by rfl) ?_; intro v6 w6 hown6 hg6 hf6; obtain ⟨a6, c6, rfl, _, _⟩ := own_shape hown6; have m6 := Ha.out.mid RS.out (by decide) hg6; have e0 := m6.1.at 0 _ rfl; have e1 := m6.1.at 1 _ rfl; have e2 := m6.1.at 2 _ rfl; have e3 := m6.1.at 3 _ rfl; have e4 := m6.1.at 4 _ rfl; have e5 := m6.1.at 5 _ rfl; have ef := m6.2; have H5 := Lib.hid (Ha.out.steps (ss := d.steps ++ [s]) hg6 (by rw [List.map_append]; exact hown6)); clear m6 hown6 hg6 hf6))
    all_goals
      have SM2 := Lib.hid ((sm_steps (s := s) SM.out (by decide) hsz2).mono (show 6400 + 400 ≤ 6800 by decide))
      clear q0 q1 q2 q3 q4 q5 qf
      obtain ⟨u0, u1, u2, u3, u4, u5, ho⟩ := H5.out.out
      have q0 := ho.at 0 _ rfl
      have q1 := ho.at 1 _ rfl
      have q2 := ho.at 2 _ rfl
      have q3 := ho.at 3 _ rfl
      have q4 := ho.at 4 _ rfl
      have q5 := ho.at 5 _ rfl
      have qf := H5.out.fr
      clear ho
      obtain ⟨Z, hZ, hbz, hdz, hcz, hgz⟩ : ∃ Z, ((((((w6.setCell ⟨w1.heap.size, 3, none⟩ (.slice a6 (d.steps.length + 1) c6)).setCell ⟨w.heap.size, 0, none⟩ (.slice aN d.nodes.length cN)).setCell ⟨w.heap.size, 1, none⟩ (.slice aE d.ents.length cE)).setCell ⟨w.heap.size, 2, none⟩ (.slice aO d.old.length cO)).setCell ⟨w.heap.size, 3, none⟩ (.slice a6 (d.steps.length + 1) c6)).setCell ⟨w.heap.size, 4, none⟩ (.int .i64 d.room)).setCell ⟨w.heap.size, 5, none⟩ (.int .i64 d.next) = Z ∧ disk.Box Z w.heap.size [.slice aN d.nodes.length cN, .slice aE d.ents.length cE, .slice aO d.old.length cO, .slice a6 (d.steps.length + 1) c6, .int .i64 d.room, .int .i64 d.next] ∧ OwnDisk w.heap.size Z (.agg #[.slice aN d.nodes.length cN, .slice aE d.ents.length cE, .slice aO d.old.length cO, .slice a6 (d.steps.length + 1) c6, .int .i64 d.room, .int .i64 d.next]) ({ d with steps := d.steps ++ [s] }) ∧ Cur Z c a len cap ∧ w.grownBy Z (some c) := H5.out.ret
      have z0 := hbz.at 0 _ rfl
      have z1 := hbz.at 1 _ rfl
      have z2 := hbz.at 2 _ rfl
      have z3 := hbz.at 3 _ rfl
      have z4 := hbz.at 4 _ rfl
      have z5 := hbz.at 5 _ rfl
      have HZ := Lib.hid hZ
      clear hZ hbz
      go_wp2
      rw [HZ.out]
      refine bodyPost_ret (v := .agg #[.slice aN d.nodes.length cN, .slice aE d.ents.length cE, .slice aO d.old.length cO, .slice a6 (d.steps.length + 1) c6, .int .i64 d.room, .int .i64 d.next]) (by simp [results, Tryz.results62, go_sem, z0, z1, z2, z3, z4, z5]) rfl ⟨_, _, rfl, hdz, SM2.out, hcz, by first | exact hgz | exact ⟨hgz.os, hgz.tape, hgz.output, hgz.size, hgz.block⟩⟩
  · by_cases hn : 0 < d.nodes.length
    · have i1 : (0 : Int) < (d.nodes.length : Int) := by omega
      obtain ⟨gi, hgi, hge, hgl⟩ : ∃ g, aN = some ⟨g, 0, none⟩ ∧ W.heap.size ≤ g ∧ g < w3.heap.size := by
        obtain ⟨a', c', he, _, h0⟩ := own_shape H.out.rowN
        simp only [Value.slice.injEq] at he
        obtain ⟨rfl, _⟩ := he
        exact h0.resolve_left (by omega)
      subst hgi
      obtain ⟨nd, hx0⟩ : ∃ nd, d.nodes[0]? = some nd := ⟨_, List.getElem?_eq_getElem hn⟩
      have HX0 := Lib.hid hx0
      have Hd := Lib.hid (H.out.below ((Below.refl w3.heap.size w3).drew))
      clear hx0
      go_wp2
      go_region_law (first | (go_simp; go_at_call 99; refine (pickInt_new B0 c 3 a len cap [-1, 0, 99] w3.drew hBc Hd.out.lt.1 Hd.out.code Hd.out.cur rfl (by decide) (by decide)).mono ?_; rintro e w4 ⟨x, hx, rfl, u4, g4⟩; have hx2 : wfI x := (by unfold wfI; simp only [List.mem_cons, List.not_mem_nil, or_false] at hx; omega); have H4 := Lib.hid (Hd.out.draw g4 u4); have v0 := H4.out.box.at 0 _ rfl; obtain ⟨gj, oj, hgj, _, _, c00, c01, c02⟩ := H4.out.atN.nth HX0.out; obtain ⟨rfl, rfl⟩ : gi = gj ∧ 0 = oj := (by simpa using hgj); simp only [Nat.zero_add, Nat.zero_mul] at c00 c01 c02; have f2 := H4.out.rowN.frozenAt 2; clear hx))
      all_goals
        have SM2 := Lib.hid ((sm_set (t := 0) (k := 0) (m := (nd.1, nd.2.1, x)) SM.out (by decide) HX0.out ⟨(SM.out.wf.1 _ (List.mem_of_getElem? HX0.out)).1, hx2⟩ (Nat.le_refl _) (Nat.zero_le _)).mono (show 6400 + 400 ≤ 6800 by decide))
        obtain ⟨Y, hY, H5⟩ : ∃ Y, w4.setCell ⟨gi, 2, none⟩ (.int .i64 x) = Y ∧ Rig W.heap.size B0 c a len cap w Y w1.heap.size w.heap.size (.slice (some ⟨gi, 0, none⟩) d.nodes.length cN) (.slice aE d.ents.length cE) (.slice aO d.old.length cO) (.slice aS d.steps.length cS) { d with nodes := d.nodes.set 0 (nd.1, nd.2.1, x) } := ⟨_, rfl, H4.out.node (j := 2) (cellsN_sure d.nodes 0 nd x HX0.out)⟩
        have H5 := Lib.hid H5
        rw [hY]
        clear hY x0 x1 x2 x3 x4 x5 xf q0 q1 q2 q3 q4 q5 qf v0
        have x0 := H5.out.box.at 0 _ rfl
        have x1 := H5.out.box.at 1 _ rfl
        have x2 := H5.out.box.at 2 _ rfl
        have x3 := H5.out.box.at 3 _ rfl
        have x4 := H5.out.box.at 4 _ rfl
        have x5 := H5.out.box.at 5 _ rfl
        have xf := H5.out.fz
        obtain ⟨u0, u1, u2, u3, u4, u5, ho⟩ := H5.out.out
        have q0 := ho.at 0 _ rfl
        have q1 := ho.at 1 _ rfl
        have q2 := ho.at 2 _ rfl
        have q3 := ho.at 3 _ rfl
        have q4 := ho.at 4 _ rfl
        have q5 := ho.at 5 _ rfl
        have qf := H5.out.fr
        clear ho
        obtain ⟨Z, hZ, hbz, hdz, hcz, hgz⟩ : ∃ Z, ((((((Y).setCell ⟨w.heap.size, 0, none⟩ (.slice (some ⟨gi, 0, none⟩) d.nodes.length cN)).setCell ⟨w.heap.size, 1, none⟩ (.slice aE d.ents.length cE)).setCell ⟨w.heap.size, 2, none⟩ (.slice aO d.old.length cO)).setCell ⟨w.heap.size, 3, none⟩ (.slice aS d.steps.length cS)).setCell ⟨w.heap.size, 4, none⟩ (.int .i64 d.room)).setCell ⟨w.heap.size, 5, none⟩ (.int .i64 d.next) = Z ∧ disk.Box Z w.heap.size [.slice (some ⟨gi, 0, none⟩) d.nodes.length cN, .slice aE d.ents.length cE, .slice aO d.old.length cO, .slice aS d.steps.length cS, .int .i64 d.room, .int .i64 d.next] ∧ OwnDisk w.heap.size Z (.agg #[.slice (some ⟨gi, 0, none⟩) d.nodes.length cN, .slice aE d.ents.length cE, .slice aO d.old.length cO, .slice aS d.steps.length cS, .int .i64 d.room, .int .i64 d.next]) ({ d with nodes := d.nodes.set 0 (nd.1, nd.2.1, x) }) ∧ Cur Z c a len cap ∧ w.grownBy Z (some c) := H5.out.ret
        have z0 := hbz.at 0 _ rfl
        have z1 := hbz.at 1 _ rfl
        have z2 := hbz.at 2 _ rfl
        have z3 := hbz.at 3 _ rfl
        have z4 := hbz.at 4 _ rfl
        have z5 := hbz.at 5 _ rfl
        have HZ := Lib.hid hZ
        clear hZ hbz
        go_wp2
        rw [HZ.out]
        refine bodyPost_ret (v := .agg #[.slice (some ⟨gi, 0, none⟩) d.nodes.length cN, .slice aE d.ents.length cE, .slice aO d.old.length cO, .slice aS d.steps.length cS, .int .i64 d.room, .int .i64 d.next]) (by simp [results, Tryz.results62, go_sem, z0, z1, z2, z3, z4, z5]) rfl ⟨_, _, rfl, hdz, SM2.out, hcz, by first | exact hgz | exact ⟨hgz.os, hgz.tape, hgz.output, hgz.size, hgz.block⟩⟩
    · have i1 : ¬ (0 : Int) < (d.nodes.length : Int) := by omega
      obtain ⟨Z, hZ, hbz, hdz, hcz, hgz⟩ : ∃ Z, ((((((w3).setCell ⟨w.heap.size, 0, none⟩ (.slice aN d.nodes.length cN)).setCell ⟨w.heap.size, 1, none⟩ (.slice aE d.ents.length cE)).setCell ⟨w.heap.size, 2, none⟩ (.slice aO d.old.length cO)).setCell ⟨w.heap.size, 3, none⟩ (.slice aS d.steps.length cS)).setCell ⟨w.heap.size, 4, none⟩ (.int .i64 d.room)).setCell ⟨w.heap.size, 5, none⟩ (.int .i64 d.next) = Z ∧ disk.Box Z w.heap.size [.slice aN d.nodes.length cN, .slice aE d.ents.length cE, .slice aO d.old.length cO, .slice aS d.steps.length cS, .int .i64 d.room, .int .i64 d.next] ∧ OwnDisk w.heap.size Z (.agg #[.slice aN d.nodes.length cN, .slice aE d.ents.length cE, .slice aO d.old.length cO, .slice aS d.steps.length cS, .int .i64 d.room, .int .i64 d.next]) (d) ∧ Cur Z c a len cap ∧ w.grownBy Z (some c) := H.out.ret
      have z0 := hbz.at 0 _ rfl
      have z1 := hbz.at 1 _ rfl
      have z2 := hbz.at 2 _ rfl
      have z3 := hbz.at 3 _ rfl
      have z4 := hbz.at 4 _ rfl
      have z5 := hbz.at 5 _ rfl
      have HZ := Lib.hid hZ
      clear hZ hbz
      go_wp2
      rw [HZ.out]
      refine bodyPost_ret (v := .agg #[.slice aN d.nodes.length cN, .slice aE d.ents.length cE, .slice aO d.old.length cO, .slice aS d.steps.length cS, .int .i64 d.room, .int .i64 d.next]) (by simp [results, Tryz.results62, go_sem, z0, z1, z2, z3, z4, z5]) rfl ⟨_, _, rfl, hdz, (SM.out.mono (show 6400 ≤ 6800 by decide)), hcz, by first | exact hgz | exact ⟨hgz.os, hgz.tape, hgz.output, hgz.size, hgz.block⟩⟩
  · by_cases hn : 1 < d.nodes.length
    · have i1 : (1 : Int) < (d.nodes.length : Int) := by omega
      have i2 : (0 : Int) < (d.nodes.length : Int) := by omega
      obtain ⟨gi, hgi, hge, hgl⟩ : ∃ g, aN = some ⟨g, 0, none⟩ ∧ W.heap.size ≤ g ∧ g < w3.heap.size := by
        obtain ⟨a', c', he, _, h0⟩ := own_shape H.out.rowN
        simp only [Value.slice.injEq] at he
        obtain ⟨rfl, _⟩ := he
        exact h0.resolve_left (by omega)
      subst hgi
      obtain ⟨nd, hx0⟩ : ∃ nd, d.nodes[0]? = some nd := ⟨_, List.getElem?_eq_getElem (by omega)⟩
      obtain ⟨ne, hx1⟩ : ∃ ne, d.nodes[1]? = some ne := ⟨_, List.getElem?_eq_getElem hn⟩
      have HX0 := Lib.hid hx0
      have HX1 := Lib.hid hx1
      clear hx0 hx1
      obtain ⟨gj, oj, hgj, _, _, c00, c01, c02⟩ := H.out.atN.nth HX0.out; obtain ⟨rfl, rfl⟩ : gi = gj ∧ 0 = oj := (by simpa using hgj); simp only [Nat.zero_add, Nat.zero_mul] at c00 c01 c02
      obtain ⟨gj, oj, hgj, _, _, c10, c11, c12⟩ := H.out.atN.nth HX1.out; obtain ⟨rfl, rfl⟩ : gi = gj ∧ 0 = oj := (by simpa using hgj); simp only [Nat.zero_add, Nat.one_mul] at c10 c11 c12
      have f3 := H.out.rowN.frozenAt 3
      have SM2 := Lib.hid ((sm_set (t := 0) (k := 1) (m := (nd.1, ne.2.1, ne.2.2)) SM.out (by decide) HX1.out ⟨(SM.out.wf.1 _ (List.mem_of_getElem? HX0.out)).1, (SM.out.wf.1 _ (List.mem_of_getElem? HX1.out)).2.2⟩ (Nat.le_refl _) (Nat.zero_le _)).mono (show 6400 + 400 ≤ 6800 by decide))
      obtain ⟨Y, hY, H5⟩ : ∃ Y, w3.setCell ⟨gi, 3, none⟩ (.int .i64 nd.1) = Y ∧ Rig W.heap.size B0 c a len cap w Y w1.heap.size w.heap.size (.slice (some ⟨gi, 0, none⟩) d.nodes.length cN) (.slice aE d.ents.length cE) (.slice aO d.old.length cO) (.slice aS d.steps.length cS) { d with nodes := d.nodes.set 1 (nd.1, ne.2.1, ne.2.2) } := ⟨_, rfl, H.out.node (j := 3) (cellsN_id d.nodes 1 ne nd.1 HX1.out)⟩
      have H5 := Lib.hid H5
      have HY := Lib.hid hY
      clear hY
      go_wp2
      go_region
      rw [HY.out]
      clear x0 x1 x2 x3 x4 x5 xf q0 q1 q2 q3 q4 q5 qf
      have x0 := H5.out.box.at 0 _ rfl
      have x1 := H5.out.box.at 1 _ rfl
      have x2 := H5.out.box.at 2 _ rfl
      have x3 := H5.out.box.at 3 _ rfl
      have x4 := H5.out.box.at 4 _ rfl
      have x5 := H5.out.box.at 5 _ rfl
      have xf := H5.out.fz
      obtain ⟨u0, u1, u2, u3, u4, u5, ho⟩ := H5.out.out
      have q0 := ho.at 0 _ rfl
      have q1 := ho.at 1 _ rfl
      have q2 := ho.at 2 _ rfl
      have q3 := ho.at 3 _ rfl
      have q4 := ho.at 4 _ rfl
      have q5 := ho.at 5 _ rfl
      have qf := H5.out.fr
      clear ho
      obtain ⟨Z, hZ, hbz, hdz, hcz, hgz⟩ : ∃ Z, ((((((Y).setCell ⟨w.heap.size, 0, none⟩ (.slice (some ⟨gi, 0, none⟩) d.nodes.length cN)).setCell ⟨w.heap.size, 1, none⟩ (.slice aE d.ents.length cE)).setCell ⟨w.heap.size, 2, none⟩ (.slice aO d.old.length cO)).setCell ⟨w.heap.size, 3, none⟩ (.slice aS d.steps.length cS)).setCell ⟨w.heap.size, 4, none⟩ (.int .i64 d.room)).setCell ⟨w.heap.size, 5, none⟩ (.int .i64 d.next) = Z ∧ disk.Box Z w.heap.size [.slice (some ⟨gi, 0, none⟩) d.nodes.length cN, .slice aE d.ents.length cE, .slice aO d.old.length cO, .slice aS d.steps.length cS, .int .i64 d.room, .int .i64 d.next] ∧ OwnDisk w.heap.size Z (.agg #[.slice (some ⟨gi, 0, none⟩) d.nodes.length cN, .slice aE d.ents.length cE, .slice aO d.old.length cO, .slice aS d.steps.length cS, .int .i64 d.room, .int .i64 d.next]) ({ d with nodes := d.nodes.set 1 (nd.1, ne.2.1, ne.2.2) }) ∧ Cur Z c a len cap ∧ w.grownBy Z (some c) := H5.out.ret
      have z0 := hbz.at 0 _ rfl
      have z1 := hbz.at 1 _ rfl
      have z2 := hbz.at 2 _ rfl
      have z3 := hbz.at 3 _ rfl
      have z4 := hbz.at 4 _ rfl
      have z5 := hbz.at 5 _ rfl
      have HZ := Lib.hid hZ
      clear hZ hbz
      go_wp2
      rw [HZ.out]
      refine bodyPost_ret (v := .agg #[.slice (some ⟨gi, 0, none⟩) d.nodes.length cN, .slice aE d.ents.length cE, .slice aO d.old.length cO, .slice aS d.steps.length cS, .int .i64 d.room, .int .i64 d.next]) (by simp [results, Tryz.results62, go_sem, z0, z1, z2, z3, z4, z5]) rfl ⟨_, _, rfl, hdz, SM2.out, hcz, by first | exact hgz | exact ⟨hgz.os, hgz.tape, hgz.output, hgz.size, hgz.block⟩⟩
    · have i1 : ¬ (1 : Int) < (d.nodes.length : Int) := by omega
      obtain ⟨Z, hZ, hbz, hdz, hcz, hgz⟩ : ∃ Z, ((((((w3).setCell ⟨w.heap.size, 0, none⟩ (.slice aN d.nodes.length cN)).setCell ⟨w.heap.size, 1, none⟩ (.slice aE d.ents.length cE)).setCell ⟨w.heap.size, 2, none⟩ (.slice aO d.old.length cO)).setCell ⟨w.heap.size, 3, none⟩ (.slice aS d.steps.length cS)).setCell ⟨w.heap.size, 4, none⟩ (.int .i64 d.room)).setCell ⟨w.heap.size, 5, none⟩ (.int .i64 d.next) = Z ∧ disk.Box Z w.heap.size [.slice aN d.nodes.length cN, .slice aE d.ents.length cE, .slice aO d.old.length cO, .slice aS d.steps.length cS, .int .i64 d.room, .int .i64 d.next] ∧ OwnDisk w.heap.size Z (.agg #[.slice aN d.nodes.length cN, .slice aE d.ents.length cE, .slice aO d.old.length cO, .slice aS d.steps.length cS, .int .i64 d.room, .int .i64 d.next]) (d) ∧ Cur Z c a len cap ∧ w.grownBy Z (some c) := H.out.ret
      have z0 := hbz.at 0 _ rfl
      have z1 := hbz.at 1 _ rfl
      have z2 := hbz.at 2 _ rfl
      have z3 := hbz.at 3 _ rfl
      have z4 := hbz.at 4 _ rfl
      have z5 := hbz.at 5 _ rfl
      have HZ := Lib.hid hZ
      clear hZ hbz
      go_wp2
      rw [HZ.out]
      refine bodyPost_ret (v := .agg #[.slice aN d.nodes.length cN, .slice aE d.ents.length cE, .slice aO d.old.length cO, .slice aS d.steps.length cS, .int .i64 d.room, .int .i64 d.next]) (by simp [results, Tryz.results62, go_sem, z0, z1, z2, z3, z4, z5]) rfl ⟨_, _, rfl, hdz, (SM.out.mono (show 6400 ≤ 6800 by decide)), hcz, by first | exact hgz | exact ⟨hgz.os, hgz.tape, hgz.output, hgz.size, hgz.block⟩⟩
  · obtain ⟨Z, hZ, hbz, hdz, hcz, hgz⟩ : ∃ Z, ((((((w3).setCell ⟨w.heap.size, 0, none⟩ (.slice aN d.nodes.length cN)).setCell ⟨w.heap.size, 1, none⟩ (.slice aE d.ents.length cE)).setCell ⟨w.heap.size, 2, none⟩ (.slice aO d.old.length cO)).setCell ⟨w.heap.size, 3, none⟩ (.slice aS d.steps.length cS)).setCell ⟨w.heap.size, 4, none⟩ (.int .i64 d.room)).setCell ⟨w.heap.size, 5, none⟩ (.int .i64 d.next) = Z ∧ disk.Box Z w.heap.size [.slice aN d.nodes.length cN, .slice aE d.ents.length cE, .slice aO d.old.length cO, .slice aS d.steps.length cS, .int .i64 d.room, .int .i64 d.next] ∧ OwnDisk w.heap.size Z (.agg #[.slice aN d.nodes.length cN, .slice aE d.ents.length cE, .slice aO d.old.length cO, .slice aS d.steps.length cS, .int .i64 d.room, .int .i64 d.next]) (d) ∧ Cur Z c a len cap ∧ w.grownBy Z (some c) := H.out.ret
    have z0 := hbz.at 0 _ rfl
    have z1 := hbz.at 1 _ rfl
    have z2 := hbz.at 2 _ rfl
    have z3 := hbz.at 3 _ rfl
    have z4 := hbz.at 4 _ rfl
    have z5 := hbz.at 5 _ rfl
    have HZ := Lib.hid hZ
    clear hZ hbz
    go_wp2
    rw [HZ.out]
    refine bodyPost_ret (v := .agg #[.slice aN d.nodes.length cN, .slice aE d.ents.length cE, .slice aO d.old.length cO, .slice aS d.steps.length cS, .int .i64 d.room, .int .i64 d.next]) (by simp [results, Tryz.results62, go_sem, z0, z1, z2, z3, z4, z5]) rfl ⟨_, _, rfl, hdz, (SM.out.mono (show 6400 ≤ 6800 by decide)), hcz, by first | exact hgz | exact ⟨hgz.os, hgz.tape, hgz.output, hgz.size, hgz.block⟩⟩

end Go.Proofs.YtgcpgoehnjkpbaaGreatDoor.deed

namespace Go.Proofs.YtgcpgoehnjkpbaaGreatDoor.deed
open Go.RowKit
open kit strs recs disk kd draw num

theorem name5_any (B c : Nat) (a : Option Addr) (len cap : Nat) (w : World) (hBc : B ≤ c) (hcw : c < w.heap.size) (hc : CodeAt w B a len) (hu : Cur w c a len cap) :
    Calls Tryz.prog 74 #[.pointer (some ⟨c, 0, none⟩)] w fun e w' => ∃ s : ByteArray, s.size ≤ 20 ∧ e = .returned (.string s) ∧ Cur w' c a len cap ∧ w.grownBy w' (some c) := by
  go_enter Tryz.func74, Tryz.ntmps74
  go_wp2_with (fail)
  refine (pick_new B c 9 a len cap [{ data := #[97] }, { data := #[98] }, { data := #[115, 48, 48, 48, 48, 48, 48, 48, 48, 46, 115, 101, 103] }, { data := #[115, 48, 48, 48, 48, 48, 48, 48, 51, 46, 115, 101, 103] }, { data := #[115, 48, 48, 48, 48, 48, 48, 48, 48, 46, 115, 101, 103, 46, 116, 109, 112] }, { data := #[99] }, { data := #[120] }, { data := #[] }, { data := #[65] }] w hBc hcw hc hu rfl (by decide) (by decide)).mono ?_
  rintro e w1 ⟨s, hs, rfl, u1, g1⟩
  have hsz : s.size ≤ 20 := by
    simp only [List.mem_cons, List.not_mem_nil, or_false] at hs
    rcases hs with rfl | rfl | rfl | rfl | rfl | rfl | rfl | rfl | rfl <;> decide
  clear hs
  go_wp2
  go_ret
  exact ⟨s, hsz, rfl, u1, g1⟩

/-- a small disk of the call's own; nothing of what was there turns -/
def PostDD (w : World) (e : Ending) (w' : World) : Prop := ∃ u d, e = .returned u ∧ OwnDisk w.heap.size w' u d ∧ Sm 6800 d ∧ Below w.heap.size w w'
def PostDS (w : World) (e : Ending) (w' : World) : Prop := ∃ u d s, e = .returned (.tuple #[u, .string s]) ∧ s.size ≤ 20 ∧ OwnDisk w.heap.size w' u d ∧ Sm 6800 d ∧ Below w.heap.size w w'

set_option maxHeartbeats 4000000 in
set_option maxRecDepth 100000 in
theorem drawDisk_any (a : Option Addr) (len cap : Nat) (w : World) (hc : CodeAt w w.heap.size a len) :
    Calls Tryz.prog 15 #[.slice a len cap] w (PostDD w) := by
  obtain ⟨W, hW⟩ : ∃ W, W = w.alloc (.cells #[.slice none 0 0, .slice none 0 0, .slice none 0 0, .slice none 0 0, .int .i64 0, .int .i64 0] 28) := ⟨_, rfl⟩
  have hWB : Below w.heap.size w W := by rw [hW]; exact (Below.refl _ _).alloc (Nat.le_refl _) _
  have hsz : w.heap.size + 1 = W.heap.size := by rw [hW]; simp
  have br := show disk.Box W w.heap.size [.slice none 0 0, .slice none 0 0, .slice none 0 0, .slice none 0 0, .int .i64 0, .int .i64 0] from by rw [hW]; exact Box.new w #[.slice none 0 0, .slice none 0 0, .slice none 0 0, .slice none 0 0, .int .i64 0, .int .i64 0] _
  have fr : ∀ j, W.frozen? ⟨w.heap.size, j, none⟩ = false := fun j => by rw [hW]; simp
  have cW := hc.below hWB
  have BR := Lib.hid br
  have FR := Lib.hid fr
  have HW := Lib.hid hWB
  clear br fr hWB hc
  go_enter Tryz.func15, Tryz.ntmps15
  go_wp2_with (fail)
  rw [← hW]
  clear hW
  refine (new_any w.heap.size a len cap W (by omega) cW).mono ?_
  rintro e w1 ⟨rfl, u1, b1, s1⟩
  have code1 := cW.below (b1.mono (by omega))
  go_wp2_with (fail)
  refine (any_any w.heap.size W.heap.size a len cap w1 (by omega) (by omega) code1 u1).mono ?_
  rintro e w2 ⟨u, d, rfl, hd, sm, u2, g2⟩
  obtain ⟨aN, aE, aO, aS, cN, cE, cO, cS, rfl⟩ := own_slices hd
  have b2 : Below W.heap.size W w2 := b1.grown g2 (by omega) (fun k hk => by injection hk with hk; omega)
  have br2 := BR.out.below b2
  have fr2 := frozen_below FR.out BR.out.1 b2
  have q0 := br2.at 0 _ rfl
  have q1 := br2.at 1 _ rfl
  have q2 := br2.at 2 _ rfl
  have q3 := br2.at 3 _ rfl
  have q4 := br2.at 4 _ rfl
  have q5 := br2.at 5 _ rfl
  obtain ⟨Z, hZ, hbz, hdz, hlz⟩ := six_ret br2 (show w.heap.size < w1.heap.size by omega) hd w.heap.size w (HW.out.trans (b2.mono (by omega))) (Nat.le_refl _)
  have z0 := hbz.at 0 _ rfl
  have z1 := hbz.at 1 _ rfl
  have z2 := hbz.at 2 _ rfl
  have z3 := hbz.at 3 _ rfl
  have z4 := hbz.at 4 _ rfl
  have z5 := hbz.at 5 _ rfl
  have HZ := Lib.hid hZ
  have SM := Lib.hid sm
  clear hZ hbz hd u1 b1 u2 g2 b2 br2 code1 cW sm
  go_wp2
  rw [HZ.out]
  refine bodyPost_ret (v := .agg #[.slice aN d.nodes.length cN, .slice aE d.ents.length cE, .slice aO d.old.length cO, .slice aS d.steps.length cS, .int .i64 d.room, .int .i64 d.next]) (by simp [results, Tryz.results15, go_sem, z0, z1, z2, z3, z4, z5]) rfl ⟨_, _, rfl, hdz.base (by omega), SM.out, hlz⟩

set_option maxHeartbeats 4000000 in
set_option maxRecDepth 100000 in
theorem ask_any (a : Option Addr) (len cap : Nat) (w : World) (hc : CodeAt w w.heap.size a len) :
    Calls Tryz.prog 71 #[.slice a len cap] w (PostDS w) := by
  obtain ⟨W, hW⟩ : ∃ W, W = w.alloc (.cells #[.slice none 0 0, .slice none 0 0, .slice none 0 0, .slice none 0 0, .int .i64 0, .int .i64 0] 28) := ⟨_, rfl⟩
  have hWB : Below w.heap.size w W := by rw [hW]; exact (Below.refl _ _).alloc (Nat.le_refl _) _
  have hsz : w.heap.size + 1 = W.heap.size := by rw [hW]; simp
  have br := show disk.Box W w.heap.size [.slice none 0 0, .slice none 0 0, .slice none 0 0, .slice none 0 0, .int .i64 0, .int .i64 0] from by rw [hW]; exact Box.new w #[.slice none 0 0, .slice none 0 0, .slice none 0 0, .slice none 0 0, .int .i64 0, .int .i64 0] _
  have fr : ∀ j, W.frozen? ⟨w.heap.size, j, none⟩ = false := fun j => by rw [hW]; simp
  have cW := hc.below hWB
  have BR := Lib.hid br
  have FR := Lib.hid fr
  have HW := Lib.hid hWB
  clear br fr hWB hc
  go_enter Tryz.func71, Tryz.ntmps71
  go_wp2_with (fail)
  rw [← hW]
  clear hW
  refine (new_any w.heap.size a len cap W (by omega) cW).mono ?_
  rintro e w1 ⟨rfl, u1, b1, s1⟩
  have code1 := cW.below (b1.mono (by omega))
  go_wp2_with (fail)
  refine (any_any w.heap.size W.heap.size a len cap w1 (by omega) (by omega) code1 u1).mono ?_
  rintro e w2 ⟨u, d, rfl, hd, sm, u2, g2⟩
  obtain ⟨aN, aE, aO, aS, cN, cE, cO, cS, rfl⟩ := own_slices hd
  have b2 : Below W.heap.size W w2 := b1.grown g2 (by omega) (fun k hk => by injection hk with hk; omega)
  have code2 := code1.grown (by omega) (by omega) g2
  have s2 := g2.size
  obtain ⟨V, hV⟩ : ∃ V, V = w2.alloc (.cells #[.slice aN d.nodes.length cN, .slice aE d.ents.length cE, .slice aO d.old.length cO, .slice aS d.steps.length cS, .int .i64 d.room, .int .i64 d.next] 28) := ⟨_, rfl⟩
  have bV : Below w2.heap.size w2 V := by rw [hV]; exact (Below.refl _ _).alloc (Nat.le_refl _) _
  have sV : V.heap.size = w2.heap.size + 1 := by rw [hV]; simp
  have bxV := show disk.Box V w2.heap.size [.slice aN d.nodes.length cN, .slice aE d.ents.length cE, .slice aO d.old.length cO, .slice aS d.steps.length cS, .int .i64 d.room, .int .i64 d.next] from by rw [hV]; exact Box.new w2 #[.slice aN d.nodes.length cN, .slice aE d.ents.length cE, .slice aO d.old.length cO, .slice aS d.steps.length cS, .int .i64 d.room, .int .i64 d.next] _
  have brV := (BR.out.below b2).below bV
  have frV := frozen_below (frozen_below FR.out BR.out.1 b2) (BR.out.below b2).1 bV
  have hdV := disk_below hd bV
  have cV := code2.below (bV.mono (by omega))
  have uV := u2.below (bV.mono (by omega))
  have BX := Lib.hid bxV
  have BR2 := Lib.hid brV
  have FR2 := Lib.hid frV
  have HD := Lib.hid hdV
  have CV := Lib.hid cV
  have UV := Lib.hid uV
  have SM := Lib.hid sm
  have HB := Lib.hid (HW.out.trans ((b2.trans (bV.mono (by omega))).mono (by omega)))
  have x0 := bxV.at 0 _ rfl
  have x1 := bxV.at 1 _ rfl
  have x2 := bxV.at 2 _ rfl
  have x3 := bxV.at 3 _ rfl
  have x4 := bxV.at 4 _ rfl
  have x5 := bxV.at 5 _ rfl
  clear hd u1 b1 u2 g2 b2 bV bxV brV frV hdV cV uV code1 code2 cW sm BR FR HW
  go_wp2
  rw [← hV]
  clear hV
  go_region_law (first | (go_simp; go_at_call 74; refine (name5_any w.heap.size W.heap.size a len cap V.drew (by omega) (by show _ < V.heap.size; omega) (CV.out.below (Below.refl _ _).drew) (UV.out.below (Below.refl _ _).drew)).mono ?_; rintro e w3 ⟨s, hs, rfl, u3, g3⟩; have bx3 := box_keep (BX.out.below (Below.refl _ _).drew) g3 (by omega); have y0 := bx3.at 0 _ rfl; have y1 := bx3.at 1 _ rfl; have y2 := bx3.at 2 _ rfl; have y3 := bx3.at 3 _ rfl; have y4 := bx3.at 4 _ rfl; have y5 := bx3.at 5 _ rfl; have br3 := box_keep (BR2.out.below (Below.refl _ _).drew) g3 (by omega); have fr3 := frozen_keep (frozen_below FR2.out BR2.out.1 (Below.refl _ _).drew) (BR2.out.below (Below.refl _ _).drew).1 g3 (by omega); have q0 := br3.at 0 _ rfl; have q1 := br3.at 1 _ rfl; have q2 := br3.at 2 _ rfl; have q3 := br3.at 3 _ rfl; have q4 := br3.at 4 _ rfl; have q5 := br3.at 5 _ rfl; have hd3 := Lib.hid (disk_keep (disk_below HD.out (Below.refl _ _).drew) g3 (by omega)); have hb3 := Lib.hid (HB.out.drew.grown g3 (by have := HB.out.size; show _ ≤ V.heap.size; omega) (fun k hk => by injection hk with hk; omega)); have BR3 := Lib.hid br3; clear bx3 u3 g3 br3))
  all_goals
    obtain ⟨Z, hZ, hbz, hdz, hlz⟩ := six_ret BR3.out (show w.heap.size < w1.heap.size by omega) hd3.out w.heap.size w hb3.out (Nat.le_refl _)
    have z0 := hbz.at 0 _ rfl
    have z1 := hbz.at 1 _ rfl
    have z2 := hbz.at 2 _ rfl
    have z3 := hbz.at 3 _ rfl
    have z4 := hbz.at 4 _ rfl
    have z5 := hbz.at 5 _ rfl
    rw [hZ]
    clear hZ hbz x0 x1 x2 x3 x4 x5 y0 y1 y2 y3 y4 y5 q0 q1 q2 q3 q4 q5
    go_wp2
    refine bodyPost_ret (v := .tuple #[.agg #[.slice aN d.nodes.length cN, .slice aE d.ents.length cE, .slice aO d.old.length cO, .slice aS d.steps.length cS, .int .i64 d.room, .int .i64 d.next], .string s]) (by simp [results, Tryz.results71, go_sem, z0, z1, z2, z3, z4, z5]) rfl ⟨_, _, s, rfl, hs, hdz.base (by omega), SM.out, hlz⟩

set_option maxHeartbeats 4000000 in
set_option maxRecDepth 100000 in
theorem drawRead_any (a : Option Addr) (len cap : Nat) (w : World) (hc : CodeAt w w.heap.size a len) :
    Calls Tryz.prog 18 #[.slice a len cap] w (PostDS w) := by
  obtain ⟨W, hW⟩ : ∃ W, W = w.alloc (.cells #[.slice none 0 0, .slice none 0 0, .slice none 0 0, .slice none 0 0, .int .i64 0, .int .i64 0] 28) := ⟨_, rfl⟩
  have hWB : Below w.heap.size w W := by rw [hW]; exact (Below.refl _ _).alloc (Nat.le_refl _) _
  have hsz : w.heap.size + 1 = W.heap.size := by rw [hW]; simp
  have br := show disk.Box W w.heap.size [.slice none 0 0, .slice none 0 0, .slice none 0 0, .slice none 0 0, .int .i64 0, .int .i64 0] from by rw [hW]; exact Box.new w #[.slice none 0 0, .slice none 0 0, .slice none 0 0, .slice none 0 0, .int .i64 0, .int .i64 0] _
  have fr : ∀ j, W.frozen? ⟨w.heap.size, j, none⟩ = false := fun j => by rw [hW]; simp
  have cW := hc.below hWB
  have BR := Lib.hid br
  have FR := Lib.hid fr
  have HW := Lib.hid hWB
  clear br fr hWB hc
  go_enter Tryz.func18, Tryz.ntmps18
  go_wp2_with (fail)
  rw [← hW]
  clear hW
  refine (ask_any a len cap W (cW.raise (by omega))).mono ?_
  rintro e w2 ⟨u, d, s, rfl, hs, hd, sm, b2⟩
  obtain ⟨aN, aE, aO, aS, cN, cE, cO, cS, rfl⟩ := own_slices hd
  have br2 := BR.out.below b2
  have fr2 := frozen_below FR.out BR.out.1 b2
  have q0 := br2.at 0 _ rfl
  have q1 := br2.at 1 _ rfl
  have q2 := br2.at 2 _ rfl
  have q3 := br2.at 3 _ rfl
  have q4 := br2.at 4 _ rfl
  have q5 := br2.at 5 _ rfl
  obtain ⟨Z, hZ, hbz, hdz, hlz⟩ := six_ret br2 (show w.heap.size < W.heap.size by omega) hd w.heap.size w (HW.out.trans (b2.mono (by omega))) (Nat.le_refl _)
  have z0 := hbz.at 0 _ rfl
  have z1 := hbz.at 1 _ rfl
  have z2 := hbz.at 2 _ rfl
  have z3 := hbz.at 3 _ rfl
  have z4 := hbz.at 4 _ rfl
  have z5 := hbz.at 5 _ rfl
  have HZ := Lib.hid hZ
  have SM := Lib.hid sm
  clear hZ hbz hd b2 br2 cW sm
  go_wp2
  rw [HZ.out]
  refine bodyPost_ret (v := .tuple #[.agg #[.slice aN d.nodes.length cN, .slice aE d.ents.length cE, .slice aO d.old.length cO, .slice aS d.steps.length cS, .int .i64 d.room, .int .i64 d.next], .string s]) (by simp [results, Tryz.results18, go_sem, z0, z1, z2, z3, z4, z5]) rfl ⟨_, _, s, rfl, hs, hdz.base (by omega), SM.out, hlz⟩

set_option maxHeartbeats 400000 in
theorem same_any (a b : Option Addr) (c d n : Nat) (xs : List ByteArray) (w : World) (hm : n ≤ 1048576) (ha : strs.At w a n xs) (hb : strs.At w b n xs) :
    Calls Tryz.prog 24 #[.slice a n c, .slice b n d] w fun e w' => e = .returned (.bool true) ∧ Below w.heap.size w w' := by
  have HL := Lib.hid ha.1
  have HA := Lib.hid ha
  have HB := Lib.hid hb
  clear ha hb
  go_enter Tryz.func24, Tryz.ntmps24
  go_wp2
  go_loopw [5] (fun i wr => ∃ k : Nat, k ≤ n ∧ i = .int .i64 k ∧ Below w.heap.size w wr) (fun i _ => n - (intOf i).toNat)
  case atStart => exact ⟨0, Nat.zero_le _, rfl, Below.refl _ _⟩
  case round =>
    obtain ⟨k, hk, rfl, hb⟩ := hrel
    by_cases hlt : k < n
    · obtain ⟨x, hxk⟩ : ∃ x, xs[k]? = some x := ⟨_, List.getElem?_eq_getElem (by rw [HL.out]; exact hlt)⟩
      obtain ⟨g, o, rfl, hg, hx⟩ := HA.out.2.resolve_left (by omega)
      obtain ⟨h, p, rfl, hh, hy⟩ := HB.out.2.resolve_left (by omega)
      have c1 : wr.cell? ⟨g, o + k, none⟩ = some (.string x) := (hb.cell (p := ⟨g, o + k, none⟩) hg).trans (hx k x hxk)
      have c2 : wr.cell? ⟨h, p + k, none⟩ = some (.string x) := (hb.cell (p := ⟨h, p + k, none⟩) hh).trans (hy k x hxk)
      have hne := str_yes (rfl : x = x)
      clear hxk hx hy HA HB
      have i0 : (0 : Int) ≤ (k : Int) := by omega
      have i1 : (k : Int) < (n : Int) := by omega
      go_wp2
      go_quiet (fail)
      go_wp2
      go_roundw
      case rel => exact ⟨k + 1, by omega, by go_num, below_drewN hb _⟩
      case measure => simp [intOf]; omega
    · go_wp2
      go_ret
      exact ⟨rfl, hb⟩

end Go.Proofs.YtgcpgoehnjkpbaaGreatDoor.deed

namespace Go.Proofs.YtgcpgoehnjkpbaaGreatDoor.deed
open Go.RowKit
open kit strs recs disk kd draw num

theorem new_ok : diskOk ⟨[], [], [], [], 50, 1⟩ = true := by decide +kernel
theorem node_id {d : D} {s : ByteArray} {nd : Nod} (h : nodeAt d s = some nd) : idE d.ents s = nd.1 := by
  unfold nodeAt at h
  unfold idE
  cases he : entAt d.ents s with
  | none => rw [he] at h; cases h
  | some i =>
    rw [he] at h
    cases hk : nodeIx d.nodes i with
    | none => simp only [hk] at h; cases h
    | some k =>
      simp only [hk] at h
      obtain ⟨n, hx, hn⟩ := nodeIx_lt _ _ _ hk
      rw [hx] at h
      cases h
      exact hn.symm
theorem is_atE {w : World} {sN sO sS x y : Value} {a : Option Addr} {n c : Nat} {d : D} (h : IsDisk w (.agg #[sN, .slice a n c, sO, sS, x, y]) d) : AtE w a n d.ents := by
  obtain ⟨aN, aE, aO, aS, nN, cN, nE, cE, nO, cO, nS, cS, hv, h1, h2, h3, h4⟩ := h
  simp only [Value.agg.injEq, Array.mk.injEq, List.cons.injEq, Value.slice.injEq] at hv
  obtain ⟨rfl, ⟨rfl, rfl, rfl⟩, _⟩ := hv
  exact h2
theorem strs_len {w : World} {B n : Nat} {v : Value} {xs : List ByteArray} (h : w.ownsRow B 9 1 v n (xs.map Value.string)) : n = xs.length := by
  have := h.1
  rw [List.length_map, Nat.mul_one] at this
  exact this.symm

set_option maxRecDepth 20000 in
theorem disks_big (a : Option Addr) (len cap : Nat) (w : World) (h1 : 1048576 < len) :
    Calls Tryz.prog 3 #[.slice a len cap] w fun e w' => e = .returned (.bool true) ∧ Below w.heap.size w w' := by
  go_enter Tryz.func3, Tryz.ntmps3
  go_wp2_with fail
  refine (big_yes a len cap w h1).mono ?_
  rintro e w' ⟨rfl, rfl⟩
  go_wp2
  go_ret
  exact ⟨rfl, Below.refl _ _⟩

set_option linter.unusedSimpArgs false in
set_option maxHeartbeats 16000000 in
set_option maxRecDepth 100000 in
theorem disks_small (a : Option Addr) (len cap : Nat) (w : World) (hc : CodeAt w w.heap.size a len) (hg : ik.GD w) :
    Calls Tryz.prog 3 #[.slice a len cap] w fun e w' => e = .returned (.bool true) ∧ Below w.heap.size w w' := by
  have HC := Lib.hid hc
  have HG := Lib.hid hg
  have hlen := hc.1
  clear hc hg
  go_enter Tryz.func3, Tryz.ntmps3
  go_wp2_with (fail)
  refine (big_no a len cap w hlen).mono ?_
  rintro e w' ⟨rfl, rfl⟩
  clear hlen
  go_wp2_with (fail)
  refine (drawDisk_any a len cap w HC.out).mono ?_
  rintro e w1 ⟨u, d, rfl, hd, sm, b1⟩
  obtain ⟨aN, aE, aO, aS, cN, cE, cO, cS, rfl⟩ := own_slices hd
  obtain ⟨V, hV⟩ : ∃ V, V = w1.alloc (.cells #[.slice aN d.nodes.length cN, .slice aE d.ents.length cE, .slice aO d.old.length cO, .slice aS d.steps.length cS, .int .i64 d.room, .int .i64 d.next] 28) := ⟨_, rfl⟩
  have bV : Below w1.heap.size w1 V := by rw [hV]; exact (Below.refl _ _).alloc (Nat.le_refl _) _
  have bxV := show disk.Box V w1.heap.size [.slice aN d.nodes.length cN, .slice aE d.ents.length cE, .slice aO d.old.length cO, .slice aS d.steps.length cS, .int .i64 d.room, .int .i64 d.next] from by rw [hV]; exact Box.new w1 #[.slice aN d.nodes.length cN, .slice aE d.ents.length cE, .slice aO d.old.length cO, .slice aS d.steps.length cS, .int .i64 d.room, .int .i64 d.next] _
  have bwV := b1.trans (bV.mono b1.size)
  have OK := Lib.hid (sm.ok (by decide))
  have LN : d.ents.length ≤ 6800 := Nat.le_trans (bulkE_len _) sm.e
  have HLN := Lib.hid LN
  have ID := Lib.hid (hd.is.below bV)
  have BX := Lib.hid bxV
  have HB := Lib.hid bwV
  have y0 := Later.cell (bxV.at 0 _ rfl) bxV.1
  have y1 := Later.cell (bxV.at 1 _ rfl) bxV.1
  have y2 := Later.cell (bxV.at 2 _ rfl) bxV.1
  have y3 := Later.cell (bxV.at 3 _ rfl) bxV.1
  have y4 := Later.cell (bxV.at 4 _ rfl) bxV.1
  have y5 := Later.cell (bxV.at 5 _ rfl) bxV.1
  obtain ⟨R, hR⟩ : ∃ R, R = diskOk d := ⟨_, rfl⟩
  have CI := Lib.hid (fun (x : Later V) => ik.implDiskOk _ d x.val OK.out (ID.out.below x.2) ((HG.out.below HB.out).below x.2))
  have CJ := Lib.hid (fun (x : Later V) => specDiskOk _ d x.val (okD.loose OK.out) (ID.out.below x.2))
  rw [← hR] at CI CJ
  clear hd sm b1 bV bxV bwV hR LN
  go_wp2
  rw [← hV]
  clear hV
  refine wp_region_later (by kernel_rfl) (by kernel_rfl) ?_
  repeat (first | go_big_quiet_skip | (go_big_quiet_want; go_big_quiet_op; first | go_big_quiet_on | (apply Exists.intro; refine ⟨fun x => ?_, ?_⟩; (first | (go_at_call 16; exact Calls.later (CI.out x)) | (go_at_call 17; exact Calls.later (CJ.out x))); go_big_quiet_on)))
  refine wpQuiet_nil ?_
  rintro w2 ⟨x2, hx2⟩
  have hb2 : Below V.heap.size V w2 := hx2 ▸ x2.2
  clear hx2 x2 CI CJ y0 y1 y2 y3 y4 y5
  have HB2 := Lib.hid (HB.out.trans (hb2.mono HB.out.size))
  have BX2 := Lib.hid (BX.out.below hb2)
  have ID2 := Lib.hid (ID.out.below hb2)
  clear hb2 BX ID HB
  go_wp2_with (fail)
  refine (drawRead_any a len cap w2 ((HC.out.below HB2.out).raise HB2.out.size)).mono ?_
  rintro e w3 ⟨u, d2, s, rfl, hs, hd, sm, b3⟩
  obtain ⟨gN, gE, gO, gS, kN, kE, kO, kS, rfl⟩ := own_slices hd
  clear hd sm
  have b4 := (Below.refl w3.heap.size w3).alloc (Nat.le_refl _) (.cells #[.slice gN d2.nodes.length kN, .slice gE d2.ents.length kE, .slice gO d2.old.length kO, .slice gS d2.steps.length kS, .int .i64 d2.room, .int .i64 d2.next] 28)
  have hb4 := b3.trans (b4.mono b3.size)
  have BX4 := Lib.hid (BX2.out.below hb4)
  have ID4 := Lib.hid (ID2.out.below hb4)
  have HB4 := Lib.hid (HB2.out.trans (hb4.mono HB2.out.size))
  clear BX2 ID2 HB2 b3 b4 hb4
  go_wp2_with (fail)
  refine (disk.implDiskNew 50 _).mono ?_
  rw [if_neg (show ¬ (50 : Int) < 0 by decide)]
  rintro e w5 ⟨rfl, b5⟩
  obtain ⟨V, hV⟩ : ∃ V, V = w5.alloc (.cells #[.slice none 0 0, .slice none 0 0, .slice none 0 0, .slice none 0 0, .int .i64 50, .int .i64 1] 28) := ⟨_, rfl⟩
  have bV : Below w5.heap.size w5 V := by rw [hV]; exact (Below.refl _ _).alloc (Nat.le_refl _) _
  have hb6 := b5.trans (bV.mono b5.size)
  have BX5 := Lib.hid (BX4.out.below b5)
  have BX6 := Lib.hid (BX4.out.below hb6)
  have ID6 := Lib.hid (ID4.out.below hb6)
  have HB6 := Lib.hid (HB4.out.trans (hb6.mono HB4.out.size))
  have NX6 := Lib.hid (show disk.Box V w5.heap.size [.slice none 0 0, .slice none 0 0, .slice none 0 0, .slice none 0 0, .int .i64 50, .int .i64 1] from by rw [hV]; exact Box.new w5 #[.slice none 0 0, .slice none 0 0, .slice none 0 0, .slice none 0 0, .int .i64 50, .int .i64 1] _)
  have NI6 := Lib.hid (show IsDisk V (.agg #[.slice none 0 0, .slice none 0 0, .slice none 0 0, .slice none 0 0, .int .i64 50, .int .i64 1]) ⟨[], [], [], [], 50, 1⟩ from (own_newD 0 V 50).is)
  have x0 := BX5.out.at 0 _ rfl
  have x1 := BX5.out.at 1 _ rfl
  have x2 := BX5.out.at 2 _ rfl
  have x3 := BX5.out.at 3 _ rfl
  have x4 := BX5.out.at 4 _ rfl
  have x5 := BX5.out.at 5 _ rfl
  have zl5 := BX5.out.1
  clear b5 bV hb6 BX4 ID4 HB4
  obtain ⟨o, ho⟩ : ∃ o, o = nodeAt d s := ⟨_, rfl⟩
  obtain ⟨tx, htx⟩ : ∃ tx, tx = textR o := ⟨_, rfl⟩
  obtain ⟨is, his⟩ : ∃ is, is = o.isSome := ⟨_, rfl⟩
  obtain ⟨i, j, hn⟩ := nodeV_text o
  have C8 := Lib.hid (disk.implReadFile _ d s V OK.out.1 ID6.out)
  have C9 := Lib.hid (fun (w' : World) (h : Below V.heap.size V w') => specReadFile _ d s w' OK.out.1 (ID6.out.below h))
  have C10 := Lib.hid (fun (w' : World) (h : Below V.heap.size V w') => disk.implNodeAt _ d s w' OK.out.1 (ID6.out.below h))
  have IDE := Lib.hid (show o.isSome = true → idE d.ents s = i from fun h => by
    cases o with
    | none => cases h
    | some nd =>
      simp only [nodeV, Value.agg.injEq, Array.mk.injEq, List.cons.injEq, Value.int.injEq] at hn
      rw [node_id ho.symm]
      exact hn.1.2)
  rw [← ho, ← htx, ← his] at C8 C9
  rw [← ho, show nodeR o = .tuple #[nodeV o, .bool o.isSome] from rfl, hn, ← htx, ← his] at C10
  rw [← his] at IDE
  clear ho htx his hn
  go_wp2_with (fail)
  rw [← hV]
  clear hV
  refine C8.out.mono ?_
  rintro e w7 ⟨rfl, b7⟩
  clear x0 x1 x2 x3 x4 x5 zl5 BX5 C8
  have BX7 := Lib.hid (BX6.out.below b7)
  have ID7 := Lib.hid (ID6.out.below b7)
  have HB7 := Lib.hid (HB6.out.trans (b7.mono HB6.out.size))
  have VB7 := Lib.hid b7
  have NX7 := Lib.hid (NX6.out.below b7)
  have NI7 := Lib.hid (NI6.out.below b7)
  have x0 := BX7.out.at 0 _ rfl
  have x1 := BX7.out.at 1 _ rfl
  have x2 := BX7.out.at 2 _ rfl
  have x3 := BX7.out.at 3 _ rfl
  have x4 := BX7.out.at 4 _ rfl
  have x5 := BX7.out.at 5 _ rfl
  clear BX6 ID6 HB6 NX6 NI6 b7
  go_wp2_with (fail)
  refine (C9.out w7 VB7.out).mono ?_
  rintro e w8 ⟨rfl, b8⟩
  clear x0 x1 x2 x3 x4 x5 C9
  have BX8 := Lib.hid (BX7.out.below b8)
  have ID8 := Lib.hid (ID7.out.below b8)
  have HB8 := Lib.hid (HB7.out.trans (b8.mono HB7.out.size))
  have VB8 := Lib.hid (VB7.out.trans (b8.mono VB7.out.size))
  have NX8 := Lib.hid (NX7.out.below b8)
  have NI8 := Lib.hid (NI7.out.below b8)
  have x0 := BX8.out.at 0 _ rfl
  have x1 := BX8.out.at 1 _ rfl
  have x2 := BX8.out.at 2 _ rfl
  have x3 := BX8.out.at 3 _ rfl
  have x4 := BX8.out.at 4 _ rfl
  have x5 := BX8.out.at 5 _ rfl
  clear BX7 ID7 HB7 NX7 NI7 b8
  go_wp2_with (fail)
  refine (disk.implFileNames _ d w8 (by have := HLN.out; omega) ID8.out).mono ?_
  rintro e w9 ⟨v, rfl, ⟨m, own9⟩, b9⟩
  obtain rfl := strs_len own9
  obtain ⟨a9, c9, rfl, _, _⟩ := own_shape own9
  clear x0 x1 x2 x3 x4 x5
  have BX9 := Lib.hid (BX8.out.below b9)
  have ID9 := Lib.hid (ID8.out.below b9)
  have HB9 := Lib.hid (HB8.out.trans (b9.mono HB8.out.size))
  have VB9 := Lib.hid (VB8.out.trans (b9.mono VB8.out.size))
  have NX9 := Lib.hid (NX8.out.below b9)
  have NI9 := Lib.hid (NI8.out.below b9)
  have ST9 := Lib.hid (strs.At.of_own own9)
  have x0 := BX9.out.at 0 _ rfl
  have x1 := BX9.out.at 1 _ rfl
  have x2 := BX9.out.at 2 _ rfl
  have x3 := BX9.out.at 3 _ rfl
  have x4 := BX9.out.at 4 _ rfl
  have x5 := BX9.out.at 5 _ rfl
  clear BX8 ID8 HB8 NX8 NI8 b9 own9
  go_wp2_with (fail)
  refine (C10.out w9 VB9.out).mono ?_
  rintro e w10 ⟨rfl, b10⟩
  clear x0 x1 x2 x3 x4 x5 C10
  obtain ⟨W, hW⟩ : ∃ W, W = w10.alloc (.cells #[.int .i64 i, .string tx, .int .i64 j] 38) := ⟨_, rfl⟩
  have bW : Below w10.heap.size w10 W := by rw [hW]; exact (Below.refl _ _).alloc (Nat.le_refl _) _
  have hb11 := b10.trans (bW.mono b10.size)
  have MX := Lib.hid (show disk.Box W w10.heap.size [.int .i64 i, .string tx, .int .i64 j] from by rw [hW]; exact Box.new w10 #[.int .i64 i, .string tx, .int .i64 j] _)
  have BX := Lib.hid (BX9.out.below hb11)
  have ID := Lib.hid (ID9.out.below hb11)
  have HB := Lib.hid (HB9.out.trans (hb11.mono HB9.out.size))
  have NX := Lib.hid (NX9.out.below hb11)
  have NI := Lib.hid (NI9.out.below hb11)
  have ST := Lib.hid (ST9.out.below hb11)
  clear BX9 ID9 HB9 NX9 NI9 ST9 b10 bW hb11
  go_wp2
  rw [← hW]
  clear hW
  have BC := (Below.refl W.heap.size W).drew
  have LNN := Lib.hid (show (names d.ents).length ≤ 1048576 by unfold names; rw [List.length_map]; have := HLN.out; omega)
  have CF := Lib.hid (fun (w' : World) (h : Below W.heap.size W w') => specFileNames _ d w' (by have := HLN.out; omega) (ID.out.below h))
  have EA := Lib.hid (is_atE ID.out)
  have CU := Lib.hid (fun (w' : World) (h : Below W.heap.size W w') => disk.implUsedOn _ d w' (by have := used_le OK.out.2; omega) OK.out.1 (ID.out.below h))
  have CV := Lib.hid (fun (w' : World) (h : Below W.heap.size W w') => specUsedOn _ d w' (by have := used_le OK.out.2; omega) OK.out.1 (ID.out.below h))
  have CK := Lib.hid (fun (w' : World) (h : Below W.heap.size W w') => specDiskOk _ _ w' (okD.loose ((sm_new 50 (by unfold wfI; omega)).ok (by decide))) (NI.out.below h))
  rw [new_ok] at CK
  have hbe := bytes_eq (rfl : tx = tx)
  cases is with
  | true =>
    have CE := Lib.hid (fun (w' : World) (h : Below W.heap.size W w') => disk.implEntryAt aE cE d.ents.length d.ents s w' (by have := HLN.out; unfold maxLen; omega) (EA.out.below h))
    rw [IDE.out rfl] at CE
    go_region_held3 (fun w' => w'.cell? ⟨w1.heap.size, 0, none⟩ = some (.slice aN d.nodes.length cN) ∧ w'.cell? ⟨w1.heap.size, 1, none⟩ = some (.slice aE d.ents.length cE) ∧ w'.cell? ⟨w1.heap.size, 2, none⟩ = some (.slice aO d.old.length cO) ∧ w'.cell? ⟨w1.heap.size, 3, none⟩ = some (.slice aS d.steps.length cS) ∧ w'.cell? ⟨w1.heap.size, 4, none⟩ = some (.int .i64 d.room) ∧ w'.cell? ⟨w1.heap.size, 5, none⟩ = some (.int .i64 d.next) ∧ w'.cell? ⟨w5.heap.size, 0, none⟩ = some (.slice none 0 0) ∧ w'.cell? ⟨w5.heap.size, 1, none⟩ = some (.slice none 0 0) ∧ w'.cell? ⟨w5.heap.size, 2, none⟩ = some (.slice none 0 0) ∧ w'.cell? ⟨w5.heap.size, 3, none⟩ = some (.slice none 0 0) ∧ w'.cell? ⟨w5.heap.size, 4, none⟩ = some (.int .i64 50) ∧ w'.cell? ⟨w5.heap.size, 5, none⟩ = some (.int .i64 1) ∧ w'.cell? ⟨w10.heap.size, 0, none⟩ = some (.int .i64 i) ∧ w'.cell? ⟨w10.heap.size, 1, none⟩ = some (.string tx)) (first | exact ⟨BX.out.at 0 _ rfl, BX.out.at 1 _ rfl, BX.out.at 2 _ rfl, BX.out.at 3 _ rfl, BX.out.at 4 _ rfl, BX.out.at 5 _ rfl, NX.out.at 0 _ rfl, NX.out.at 1 _ rfl, NX.out.at 2 _ rfl, NX.out.at 3 _ rfl, NX.out.at 4 _ rfl, NX.out.at 5 _ rfl, MX.out.at 0 _ rfl, MX.out.at 1 _ rfl⟩ | exact ⟨(BX.out.below BC).at 0 _ rfl, (BX.out.below BC).at 1 _ rfl, (BX.out.below BC).at 2 _ rfl, (BX.out.below BC).at 3 _ rfl, (BX.out.below BC).at 4 _ rfl, (BX.out.below BC).at 5 _ rfl, (NX.out.below BC).at 0 _ rfl, (NX.out.below BC).at 1 _ rfl, (NX.out.below BC).at 2 _ rfl, (NX.out.below BC).at 3 _ rfl, (NX.out.below BC).at 4 _ rfl, (NX.out.below BC).at 5 _ rfl, (MX.out.below BC).at 0 _ rfl, (MX.out.below BC).at 1 _ rfl⟩) (first | (go_at_call 25; refine (CF.out _ BC).mono ?_; rintro e wa ⟨v2, rfl, ⟨m2, own2⟩, hb⟩; obtain rfl := strs_len own2; obtain ⟨a2, c2, rfl, _, _⟩ := own_shape own2; have S2 := strs.At.of_own own2; have BC := BC.trans (hb.mono BC.size)) | (go_at_call 24; refine (same_any a9 a2 c9 c2 (names d.ents).length (names d.ents) _ LNN.out (ST.out.below BC) S2).mono ?_; rintro e wb ⟨rfl, hb⟩; have BC := BC.trans (hb.mono BC.size)) | (go_at_call 26; refine (CE.out _ BC).mono ?_; rintro e wc ⟨rfl, hb⟩; have BC := BC.trans (hb.mono BC.size)) | (go_at_call 27; refine (CU.out _ BC).mono ?_; rintro e wd ⟨rfl, hb⟩; have BC := BC.trans (hb.mono BC.size)) | (go_at_call 28; refine (CV.out _ BC).mono ?_; rintro e we ⟨rfl, hb⟩; have BC := BC.trans (hb.mono BC.size)) | (go_at_call 17; refine (CK.out _ BC).mono ?_; rintro e wf ⟨rfl, hb⟩; have BC := BC.trans (hb.mono BC.size)))
    all_goals
      go_wp2
      go_ret
      exact ⟨rfl, HB.out.trans (BC.mono HB.out.size)⟩
  | false =>
    refine wp_region_noPanic ?_
    refine wp_region_held_drew (S := (fun w' => w'.cell? ⟨w1.heap.size, 0, none⟩ = some (.slice aN d.nodes.length cN) ∧ w'.cell? ⟨w1.heap.size, 1, none⟩ = some (.slice aE d.ents.length cE) ∧ w'.cell? ⟨w1.heap.size, 2, none⟩ = some (.slice aO d.old.length cO) ∧ w'.cell? ⟨w1.heap.size, 3, none⟩ = some (.slice aS d.steps.length cS) ∧ w'.cell? ⟨w1.heap.size, 4, none⟩ = some (.int .i64 d.room) ∧ w'.cell? ⟨w1.heap.size, 5, none⟩ = some (.int .i64 d.next) ∧ w'.cell? ⟨w5.heap.size, 0, none⟩ = some (.slice none 0 0) ∧ w'.cell? ⟨w5.heap.size, 1, none⟩ = some (.slice none 0 0) ∧ w'.cell? ⟨w5.heap.size, 2, none⟩ = some (.slice none 0 0) ∧ w'.cell? ⟨w5.heap.size, 3, none⟩ = some (.slice none 0 0) ∧ w'.cell? ⟨w5.heap.size, 4, none⟩ = some (.int .i64 50) ∧ w'.cell? ⟨w5.heap.size, 5, none⟩ = some (.int .i64 1) ∧ w'.cell? ⟨w10.heap.size, 0, none⟩ = some (.int .i64 i) ∧ w'.cell? ⟨w10.heap.size, 1, none⟩ = some (.string tx))) (by kernel_rfl) ?hS0 (fun hHeld => ?rest0)
    case hS0 => exact ⟨(BX.out.below BC).at 0 _ rfl, (BX.out.below BC).at 1 _ rfl, (BX.out.below BC).at 2 _ rfl, (BX.out.below BC).at 3 _ rfl, (BX.out.below BC).at 4 _ rfl, (BX.out.below BC).at 5 _ rfl, (NX.out.below BC).at 0 _ rfl, (NX.out.below BC).at 1 _ rfl, (NX.out.below BC).at 2 _ rfl, (NX.out.below BC).at 3 _ rfl, (NX.out.below BC).at 4 _ rfl, (NX.out.below BC).at 5 _ rfl, (MX.out.below BC).at 0 _ rfl, (MX.out.below BC).at 1 _ rfl⟩
    refine' wpAnyH_take (i := 0) (oi := _) (v := _) ?hi3x (by kernel_rfl) (by kernel_rfl) (by kernel_rfl) (fun _ _ _ h => h) (Or.inl ⟨?hw3x, ?hy3x⟩) (by assumption) ?rest3x
    case hi3x => (simp only [List.getElem?_toArray, List.getElem?_cons_zero, List.getElem?_cons_succ]; rfl)
    case hw3x => rfl
    case hy3x => (intro w hSw; (try dsimp only at hSw); go_simp; first | done | with_reducible rfl)
    try simp only [Act.put, List.setIfInBounds_toArray, List.set_cons_zero, List.set_cons_succ]
    refine' wpAnyH_take (i := 1) (oi := _) (v := _) ?hi4x (by kernel_rfl) (by kernel_rfl) (by kernel_rfl) (fun _ _ _ h => h) (Or.inl ⟨?hw4x, ?hy4x⟩) (by assumption) ?rest4x
    case hi4x => (simp only [List.getElem?_toArray, List.getElem?_cons_zero, List.getElem?_cons_succ]; rfl)
    case hw4x => rfl
    case hy4x => (intro w hSw; (try dsimp only at hSw); go_simp; first | done | with_reducible rfl)
    try simp only [Act.put, List.setIfInBounds_toArray, List.set_cons_zero, List.set_cons_succ]
    refine' wpAnyH_take (i := 2) (oi := _) (v := _) ?hi5x (by kernel_rfl) (by kernel_rfl) (by kernel_rfl) (fun _ _ _ h => h) (Or.inl ⟨?hw5x, ?hy5x⟩) (by assumption) ?rest5x
    case hi5x => (simp only [List.getElem?_toArray, List.getElem?_cons_zero, List.getElem?_cons_succ]; rfl)
    case hw5x => rfl
    case hy5x => (intro w hSw; (try dsimp only at hSw); go_simp; first | done | with_reducible rfl)
    try simp only [Act.put, List.setIfInBounds_toArray, List.set_cons_zero, List.set_cons_succ]
    refine' wpAnyH_take (i := 3) (oi := _) (v := _) ?hi6x (by kernel_rfl) (by kernel_rfl) (by kernel_rfl) (fun _ _ _ h => h) (Or.inl ⟨?hw6x, ?hy6x⟩) (by assumption) ?rest6x
    case hi6x => (simp only [List.getElem?_toArray, List.getElem?_cons_zero, List.getElem?_cons_succ]; rfl)
    case hw6x => rfl
    case hy6x => (intro w hSw; (try dsimp only at hSw); go_simp; first | done | with_reducible rfl)
    try simp only [Act.put, List.setIfInBounds_toArray, List.set_cons_zero, List.set_cons_succ]
    refine' wpAnyH_take (i := 4) (oi := _) (v := _) ?hi7x (by kernel_rfl) (by kernel_rfl) (by kernel_rfl) (fun _ _ _ h => h) (Or.inl ⟨?hw7x, ?hy7x⟩) (by assumption) ?rest7x
    case hi7x => (simp only [List.getElem?_toArray, List.getElem?_cons_zero, List.getElem?_cons_succ]; rfl)
    case hw7x => rfl
    case hy7x => (intro w hSw; (try dsimp only at hSw); go_simp; first | done | with_reducible rfl)
    try simp only [Act.put, List.setIfInBounds_toArray, List.set_cons_zero, List.set_cons_succ]
    refine' wpAnyH_take (i := 5) (oi := _) (v := _) ?hi8x (by kernel_rfl) (by kernel_rfl) (by kernel_rfl) (fun _ _ _ h => h) (Or.inl ⟨?hw8x, ?hy8x⟩) (by assumption) ?rest8x
    case hi8x => (simp only [List.getElem?_toArray, List.getElem?_cons_zero, List.getElem?_cons_succ]; rfl)
    case hw8x => rfl
    case hy8x => (intro w hSw; (try dsimp only at hSw); go_simp; first | done | with_reducible rfl)
    try simp only [Act.put, List.setIfInBounds_toArray, List.set_cons_zero, List.set_cons_succ]
    refine' wpAnyH_take (i := 6) (oi := _) (v := _) ?hi9x (by kernel_rfl) (by kernel_rfl) (by kernel_rfl) (fun _ _ _ h => h) (Or.inl ⟨?hw9x, ?hy9x⟩) (by assumption) ?rest9x
    case hi9x => (simp only [List.getElem?_toArray, List.getElem?_cons_zero, List.getElem?_cons_succ]; rfl)
    case hw9x => rfl
    case hy9x => (intro w hSw; (try dsimp only at hSw); go_simp; first | done | with_reducible rfl)
    try simp only [Act.put, List.setIfInBounds_toArray, List.set_cons_zero, List.set_cons_succ]
    refine' wpAnyH_take (i := 7) (oi := _) (v := _) ?hi10x (by kernel_rfl) (by kernel_rfl) (by kernel_rfl) (fun _ _ _ h => h) (Or.inl ⟨?hw10x, ?hy10x⟩) (by assumption) ?rest10x
    case hi10x => (simp only [List.getElem?_toArray, List.getElem?_cons_zero, List.getElem?_cons_succ]; rfl)
    case hw10x => rfl
    case hy10x => (intro w hSw; (try dsimp only at hSw); go_simp; first | done | with_reducible rfl)
    try simp only [Act.put, List.setIfInBounds_toArray, List.set_cons_zero, List.set_cons_succ]
    refine' wpAnyH_take (i := 8) (oi := _) (v := _) ?hi11x (by kernel_rfl) (by kernel_rfl) (by kernel_rfl) (fun _ _ _ h => h) (Or.inl ⟨?hw11x, ?hy11x⟩) (by assumption) ?rest11x
    case hi11x => (simp only [List.getElem?_toArray, List.getElem?_cons_zero, List.getElem?_cons_succ]; rfl)
    case hw11x => rfl
    case hy11x => (intro w hSw; (try dsimp only at hSw); go_simp; first | done | with_reducible rfl)
    try simp only [Act.put, List.setIfInBounds_toArray, List.set_cons_zero, List.set_cons_succ]
    refine' wpAnyH_take (i := 9) (oi := _) (v := _) ?hi12x (by kernel_rfl) (by kernel_rfl) (by kernel_rfl) (fun _ _ _ h => h) (Or.inl ⟨?hw12x, ?hy12x⟩) (by assumption) ?rest12x
    case hi12x => (simp only [List.getElem?_toArray, List.getElem?_cons_zero, List.getElem?_cons_succ]; rfl)
    case hw12x => rfl
    case hy12x => (intro w hSw; (try dsimp only at hSw); go_simp; first | done | with_reducible rfl)
    try simp only [Act.put, List.setIfInBounds_toArray, List.set_cons_zero, List.set_cons_succ]
    refine' wpAnyH_take (i := 10) (oi := _) (v := _) ?hi13x (by kernel_rfl) (by kernel_rfl) (by kernel_rfl) (fun _ _ _ h => h) (Or.inl ⟨?hw13x, ?hy13x⟩) (by assumption) ?rest13x
    case hi13x => (simp only [List.getElem?_toArray, List.getElem?_cons_zero, List.getElem?_cons_succ]; rfl)
    case hw13x => rfl
    case hy13x => (intro w hSw; (try dsimp only at hSw); go_simp; first | done | with_reducible rfl)
    try simp only [Act.put, List.setIfInBounds_toArray, List.set_cons_zero, List.set_cons_succ]
    refine wpAnyH_ready (rs := [11]) (by kernel_rfl) (by simp) ?_
    refine' AllReadyH.cons (o := _) ?hi15x (fun K hK => ?step15x) AllReadyH.nil
    case hi15x => (simp only [List.getElem?_toArray, List.getElem?_cons_zero, List.getElem?_cons_succ]; rfl)
    go_simp
    (go_at_call 25; refine (CF.out _ BC).mono ?_; rintro e wa ⟨v2, rfl, ⟨m2, own2⟩, hb⟩; obtain rfl := strs_len own2; obtain ⟨a2, c2, rfl, _, _⟩ := own_shape own2; have S2 := strs.At.of_own own2; have BC := BC.trans (hb.mono BC.size))
    try (go_wp2_with fail)
    refine hK.out _ _ ?hS16x (fun hHeld => ?rest16x)
    case hS16x => exact ⟨(BX.out.below BC).at 0 _ rfl, (BX.out.below BC).at 1 _ rfl, (BX.out.below BC).at 2 _ rfl, (BX.out.below BC).at 3 _ rfl, (BX.out.below BC).at 4 _ rfl, (BX.out.below BC).at 5 _ rfl, (NX.out.below BC).at 0 _ rfl, (NX.out.below BC).at 1 _ rfl, (NX.out.below BC).at 2 _ rfl, (NX.out.below BC).at 3 _ rfl, (NX.out.below BC).at 4 _ rfl, (NX.out.below BC).at 5 _ rfl, (MX.out.below BC).at 0 _ rfl, (MX.out.below BC).at 1 _ rfl⟩
    clear hK K
    try simp only [Act.put, List.setIfInBounds_toArray, List.set_cons_zero, List.set_cons_succ]
    refine wpAnyH_ready (rs := [12]) (by kernel_rfl) (by simp) ?_
    refine' AllReadyH.cons (o := _) ?hi18x (fun K hK => ?step18x) AllReadyH.nil
    case hi18x => (simp only [List.getElem?_toArray, List.getElem?_cons_zero, List.getElem?_cons_succ]; rfl)
    go_simp
    (go_at_call 24; refine (same_any a9 a2 c9 c2 (names d.ents).length (names d.ents) _ LNN.out (ST.out.below BC) S2).mono ?_; rintro e wb ⟨rfl, hb⟩; have BC := BC.trans (hb.mono BC.size))
    try (go_wp2_with fail)
    refine hK.out _ _ ?hS19x (fun hHeld => ?rest19x)
    case hS19x => exact ⟨(BX.out.below BC).at 0 _ rfl, (BX.out.below BC).at 1 _ rfl, (BX.out.below BC).at 2 _ rfl, (BX.out.below BC).at 3 _ rfl, (BX.out.below BC).at 4 _ rfl, (BX.out.below BC).at 5 _ rfl, (NX.out.below BC).at 0 _ rfl, (NX.out.below BC).at 1 _ rfl, (NX.out.below BC).at 2 _ rfl, (NX.out.below BC).at 3 _ rfl, (NX.out.below BC).at 4 _ rfl, (NX.out.below BC).at 5 _ rfl, (MX.out.below BC).at 0 _ rfl, (MX.out.below BC).at 1 _ rfl⟩
    clear hK K
    try simp only [Act.put, List.setIfInBounds_toArray, List.set_cons_zero, List.set_cons_succ]
    refine' wpAnyH_take (i := 13) (oi := _) (v := _) ?hi20x (by kernel_rfl) (by kernel_rfl) (by kernel_rfl) (fun _ _ _ h => h) (Or.inl ⟨?hw20x, ?hy20x⟩) (by assumption) ?rest20x
    case hi20x => (simp only [List.getElem?_toArray, List.getElem?_cons_zero, List.getElem?_cons_succ]; rfl)
    case hw20x => rfl
    case hy20x => (intro w hSw; (try dsimp only at hSw); go_simp; first | done | with_reducible rfl)
    try simp only [Act.put, List.setIfInBounds_toArray, List.set_cons_zero, List.set_cons_succ]
    refine' wpAnyH_take (i := 14) (oi := _) (v := _) ?hi21x (by kernel_rfl) (by kernel_rfl) (by kernel_rfl) (fun _ _ _ h => h) (Or.inl ⟨?hw21x, ?hy21x⟩) (by assumption) ?rest21x
    case hi21x => (simp only [List.getElem?_toArray, List.getElem?_cons_zero, List.getElem?_cons_succ]; rfl)
    case hw21x => rfl
    case hy21x => (intro w hSw; (try dsimp only at hSw); go_simp; first | done | with_reducible rfl)
    try simp only [Act.put, List.setIfInBounds_toArray, List.set_cons_zero, List.set_cons_succ]
    refine' wpAnyH_take (i := 15) (oi := _) (v := _) ?hi22x (by kernel_rfl) (by kernel_rfl) (by kernel_rfl) (fun _ _ _ h => h) (Or.inl ⟨?hw22x, ?hy22x⟩) (by assumption) ?rest22x
    case hi22x => (simp only [List.getElem?_toArray, List.getElem?_cons_zero, List.getElem?_cons_succ]; rfl)
    case hw22x => rfl
    case hy22x => (intro w hSw; (try dsimp only at hSw); go_simp; first | done | with_reducible rfl)
    try simp only [Act.put, List.setIfInBounds_toArray, List.set_cons_zero, List.set_cons_succ]
    refine' wpAnyH_take (i := 16) (oi := _) (v := _) ?hi23x (by kernel_rfl) (by kernel_rfl) (by kernel_rfl) (fun _ _ _ h => h) (Or.inl ⟨?hw23x, ?hy23x⟩) (by assumption) ?rest23x
    case hi23x => (simp only [List.getElem?_toArray, List.getElem?_cons_zero, List.getElem?_cons_succ]; rfl)
    case hw23x => rfl
    case hy23x => (intro w hSw; (try dsimp only at hSw); go_simp; first | done | with_reducible rfl)
    try simp only [Act.put, List.setIfInBounds_toArray, List.set_cons_zero, List.set_cons_succ]
    refine' wpAnyH_take (i := 17) (oi := _) (v := _) ?hi24x (by kernel_rfl) (by kernel_rfl) (by kernel_rfl) (fun _ _ _ h => h) (Or.inl ⟨?hw24x, ?hy24x⟩) (by assumption) ?rest24x
    case hi24x => (simp only [List.getElem?_toArray, List.getElem?_cons_zero, List.getElem?_cons_succ]; rfl)
    case hw24x => rfl
    case hy24x => (intro w hSw; (try dsimp only at hSw); go_simp; first | done | with_reducible rfl)
    try simp only [Act.put, List.setIfInBounds_toArray, List.set_cons_zero, List.set_cons_succ]
    refine' wpAnyH_take (i := 18) (oi := _) (v := _) ?hi25x (by kernel_rfl) (by kernel_rfl) (by kernel_rfl) (fun _ _ _ h => h) (Or.inl ⟨?hw25x, ?hy25x⟩) (by assumption) ?rest25x
    case hi25x => (simp only [List.getElem?_toArray, List.getElem?_cons_zero, List.getElem?_cons_succ]; rfl)
    case hw25x => rfl
    case hy25x => (intro w hSw; (try dsimp only at hSw); go_simp; first | done | with_reducible rfl)
    try simp only [Act.put, List.setIfInBounds_toArray, List.set_cons_zero, List.set_cons_succ]
    refine' wpAnyH_take (i := 19) (oi := _) (v := _) ?hi26x (by kernel_rfl) (by kernel_rfl) (by kernel_rfl) (fun _ _ _ h => h) (Or.inl ⟨?hw26x, ?hy26x⟩) (by assumption) ?rest26x
    case hi26x => (simp only [List.getElem?_toArray, List.getElem?_cons_zero, List.getElem?_cons_succ]; rfl)
    case hw26x => rfl
    case hy26x => (intro w hSw; (try dsimp only at hSw); go_simp; first | done | with_reducible rfl)
    try simp only [Act.put, List.setIfInBounds_toArray, List.set_cons_zero, List.set_cons_succ]
    refine' wpAnyH_take (i := 20) (oi := _) (v := _) ?hi27x (by kernel_rfl) (by kernel_rfl) (by kernel_rfl) (fun _ _ _ h => h) (Or.inl ⟨?hw27x, ?hy27x⟩) (by assumption) ?rest27x
    case hi27x => (simp only [List.getElem?_toArray, List.getElem?_cons_zero, List.getElem?_cons_succ]; rfl)
    case hw27x => rfl
    case hy27x => (intro w hSw; (try dsimp only at hSw); go_simp; first | done | with_reducible rfl)
    try simp only [Act.put, List.setIfInBounds_toArray, List.set_cons_zero, List.set_cons_succ]
    refine' wpAnyH_take (i := 21) (oi := _) (v := _) ?hi28x (by kernel_rfl) (by kernel_rfl) (by kernel_rfl) (fun _ _ _ h => h) (Or.inl ⟨?hw28x, ?hy28x⟩) (by assumption) ?rest28x
    case hi28x => (simp only [List.getElem?_toArray, List.getElem?_cons_zero, List.getElem?_cons_succ]; rfl)
    case hw28x => rfl
    case hy28x => (intro w hSw; (try dsimp only at hSw); go_simp; first | done | with_reducible rfl)
    try simp only [Act.put, List.setIfInBounds_toArray, List.set_cons_zero, List.set_cons_succ]
    refine' wpAnyH_take (i := 22) (oi := _) (v := _) ?hi29x (by kernel_rfl) (by kernel_rfl) (by kernel_rfl) (fun _ _ _ h => h) (Or.inl ⟨?hw29x, ?hy29x⟩) (by assumption) ?rest29x
    case hi29x => (simp only [List.getElem?_toArray, List.getElem?_cons_zero, List.getElem?_cons_succ]; rfl)
    case hw29x => rfl
    case hy29x => (intro w hSw; (try dsimp only at hSw); go_simp; first | done | with_reducible rfl)
    try simp only [Act.put, List.setIfInBounds_toArray, List.set_cons_zero, List.set_cons_succ]
    refine' wpAnyH_take (i := 23) (oi := _) (v := _) ?hi30x (by kernel_rfl) (by kernel_rfl) (by kernel_rfl) (fun _ _ _ h => h) (Or.inl ⟨?hw30x, ?hy30x⟩) (by assumption) ?rest30x
    case hi30x => (simp only [List.getElem?_toArray, List.getElem?_cons_zero, List.getElem?_cons_succ]; rfl)
    case hw30x => rfl
    case hy30x => (intro w hSw; (try dsimp only at hSw); go_simp; first | done | with_reducible rfl)
    try simp only [Act.put, List.setIfInBounds_toArray, List.set_cons_zero, List.set_cons_succ]
    refine' wpAnyH_take (i := 24) (oi := _) (v := _) ?hi31x (by kernel_rfl) (by kernel_rfl) (by kernel_rfl) (fun _ _ _ h => h) (Or.inl ⟨?hw31x, ?hy31x⟩) (by assumption) ?rest31x
    case hi31x => (simp only [List.getElem?_toArray, List.getElem?_cons_zero, List.getElem?_cons_succ]; rfl)
    case hw31x => rfl
    case hy31x => (intro w hSw; (try dsimp only at hSw); go_simp; first | done | with_reducible rfl)
    try simp only [Act.put, List.setIfInBounds_toArray, List.set_cons_zero, List.set_cons_succ]
    refine' wpAnyH_take (i := 25) (oi := _) (v := _) ?hi32x (by kernel_rfl) (by kernel_rfl) (by kernel_rfl) (fun _ _ _ h => h) (Or.inl ⟨?hw32x, ?hy32x⟩) (by assumption) ?rest32x
    case hi32x => (simp only [List.getElem?_toArray, List.getElem?_cons_zero, List.getElem?_cons_succ]; rfl)
    case hw32x => rfl
    case hy32x => (intro w hSw; (try dsimp only at hSw); go_simp; first | done | with_reducible rfl)
    try simp only [Act.put, List.setIfInBounds_toArray, List.set_cons_zero, List.set_cons_succ]
    refine' wpAnyH_take (i := 26) (oi := _) (v := _) ?hi33x (by kernel_rfl) (by kernel_rfl) (by kernel_rfl) (fun _ _ _ h => h) (Or.inl ⟨?hw33x, ?hy33x⟩) (by assumption) ?rest33x
    case hi33x => (simp only [List.getElem?_toArray, List.getElem?_cons_zero, List.getElem?_cons_succ]; rfl)
    case hw33x => rfl
    case hy33x => (intro w hSw; (try dsimp only at hSw); go_simp; first | done | with_reducible rfl)
    try simp only [Act.put, List.setIfInBounds_toArray, List.set_cons_zero, List.set_cons_succ]
    refine' wpAnyH_take (i := 27) (oi := _) (v := _) ?hi34x (by kernel_rfl) (by kernel_rfl) (by kernel_rfl) (fun _ _ _ h => h) (Or.inl ⟨?hw34x, ?hy34x⟩) (by assumption) ?rest34x
    case hi34x => (simp only [List.getElem?_toArray, List.getElem?_cons_zero, List.getElem?_cons_succ]; rfl)
    case hw34x => rfl
    case hy34x => (intro w hSw; (try dsimp only at hSw); go_simp; first | done | with_reducible rfl)
    try simp only [Act.put, List.setIfInBounds_toArray, List.set_cons_zero, List.set_cons_succ]
    refine' wpAnyH_take (i := 28) (oi := _) (v := _) ?hi35x (by kernel_rfl) (by kernel_rfl) (by kernel_rfl) (fun _ _ _ h => h) (Or.inl ⟨?hw35x, ?hy35x⟩) (by assumption) ?rest35x
    case hi35x => (simp only [List.getElem?_toArray, List.getElem?_cons_zero, List.getElem?_cons_succ]; rfl)
    case hw35x => rfl
    case hy35x => (intro w hSw; (try dsimp only at hSw); go_simp; first | done | with_reducible rfl)
    try simp only [Act.put, List.setIfInBounds_toArray, List.set_cons_zero, List.set_cons_succ]
    refine' wpAnyH_take (i := 29) (oi := _) (v := undef) ?hi36x (by kernel_rfl) (by kernel_rfl) (by kernel_rfl) (fun _ _ _ h => h) (Or.inr ⟨?hw36x, rfl⟩) (by assumption) ?rest36x
    case hi36x => (simp only [List.getElem?_toArray, List.getElem?_cons_zero, List.getElem?_cons_succ]; rfl)
    case hw36x => rfl
    try simp only [Act.put, List.setIfInBounds_toArray, List.set_cons_zero, List.set_cons_succ]
    refine' wpAnyH_take (i := 30) (oi := _) (v := undef) ?hi37x (by kernel_rfl) (by kernel_rfl) (by kernel_rfl) (fun _ _ _ h => h) (Or.inr ⟨?hw37x, rfl⟩) (by assumption) ?rest37x
    case hi37x => (simp only [List.getElem?_toArray, List.getElem?_cons_zero, List.getElem?_cons_succ]; rfl)
    case hw37x => rfl
    try simp only [Act.put, List.setIfInBounds_toArray, List.set_cons_zero, List.set_cons_succ]
    refine' wpAnyH_take (i := 31) (oi := _) (v := undef) ?hi38x (by kernel_rfl) (by kernel_rfl) (by kernel_rfl) (fun _ _ _ h => h) (Or.inr ⟨?hw38x, rfl⟩) (by assumption) ?rest38x
    case hi38x => (simp only [List.getElem?_toArray, List.getElem?_cons_zero, List.getElem?_cons_succ]; rfl)
    case hw38x => rfl
    try simp only [Act.put, List.setIfInBounds_toArray, List.set_cons_zero, List.set_cons_succ]
    refine' wpAnyH_take (i := 32) (oi := _) (v := undef) ?hi39x (by kernel_rfl) (by kernel_rfl) (by kernel_rfl) (fun _ _ _ h => h) (Or.inr ⟨?hw39x, rfl⟩) (by assumption) ?rest39x
    case hi39x => (simp only [List.getElem?_toArray, List.getElem?_cons_zero, List.getElem?_cons_succ]; rfl)
    case hw39x => rfl
    try simp only [Act.put, List.setIfInBounds_toArray, List.set_cons_zero, List.set_cons_succ]
    refine' wpAnyH_take (i := 33) (oi := _) (v := undef) ?hi40x (by kernel_rfl) (by kernel_rfl) (by kernel_rfl) (fun _ _ _ h => h) (Or.inr ⟨?hw40x, rfl⟩) (by assumption) ?rest40x
    case hi40x => (simp only [List.getElem?_toArray, List.getElem?_cons_zero, List.getElem?_cons_succ]; rfl)
    case hw40x => rfl
    try simp only [Act.put, List.setIfInBounds_toArray, List.set_cons_zero, List.set_cons_succ]
    refine' wpAnyH_take (i := 34) (oi := _) (v := undef) ?hi41x (by kernel_rfl) (by kernel_rfl) (by kernel_rfl) (fun _ _ _ h => h) (Or.inr ⟨?hw41x, rfl⟩) (by assumption) ?rest41x
    case hi41x => (simp only [List.getElem?_toArray, List.getElem?_cons_zero, List.getElem?_cons_succ]; rfl)
    case hw41x => rfl
    try simp only [Act.put, List.setIfInBounds_toArray, List.set_cons_zero, List.set_cons_succ]
    refine' wpAnyH_take (i := 35) (oi := _) (v := undef) ?hi42x (by kernel_rfl) (by kernel_rfl) (by kernel_rfl) (fun _ _ _ h => h) (Or.inr ⟨?hw42x, rfl⟩) (by assumption) ?rest42x
    case hi42x => (simp only [List.getElem?_toArray, List.getElem?_cons_zero, List.getElem?_cons_succ]; rfl)
    case hw42x => rfl
    try simp only [Act.put, List.setIfInBounds_toArray, List.set_cons_zero, List.set_cons_succ]
    refine' wpAnyH_take (i := 36) (oi := _) (v := _) ?hi43x (by kernel_rfl) (by kernel_rfl) (by kernel_rfl) (fun _ _ _ h => h) (Or.inl ⟨?hw43x, ?hy43x⟩) (by assumption) ?rest43x
    case hi43x => (simp only [List.getElem?_toArray, List.getElem?_cons_zero, List.getElem?_cons_succ]; rfl)
    case hw43x => rfl
    case hy43x => (intro w hSw; (try dsimp only at hSw); go_simp; first | done | with_reducible rfl)
    try simp only [Act.put, List.setIfInBounds_toArray, List.set_cons_zero, List.set_cons_succ]
    refine' wpAnyH_take (i := 37) (oi := _) (v := _) ?hi44x (by kernel_rfl) (by kernel_rfl) (by kernel_rfl) (fun _ _ _ h => h) (Or.inl ⟨?hw44x, ?hy44x⟩) (by assumption) ?rest44x
    case hi44x => (simp only [List.getElem?_toArray, List.getElem?_cons_zero, List.getElem?_cons_succ]; rfl)
    case hw44x => rfl
    case hy44x => (intro w hSw; (try dsimp only at hSw); go_simp; first | done | with_reducible rfl)
    try simp only [Act.put, List.setIfInBounds_toArray, List.set_cons_zero, List.set_cons_succ]
    refine' wpAnyH_take (i := 38) (oi := _) (v := _) ?hi45x (by kernel_rfl) (by kernel_rfl) (by kernel_rfl) (fun _ _ _ h => h) (Or.inl ⟨?hw45x, ?hy45x⟩) (by assumption) ?rest45x
    case hi45x => (simp only [List.getElem?_toArray, List.getElem?_cons_zero, List.getElem?_cons_succ]; rfl)
    case hw45x => rfl
    case hy45x => (intro w hSw; (try dsimp only at hSw); go_simp; first | done | with_reducible rfl)
    try simp only [Act.put, List.setIfInBounds_toArray, List.set_cons_zero, List.set_cons_succ]
    refine' wpAnyH_take (i := 39) (oi := _) (v := _) ?hi46x (by kernel_rfl) (by kernel_rfl) (by kernel_rfl) (fun _ _ _ h => h) (Or.inl ⟨?hw46x, ?hy46x⟩) (by assumption) ?rest46x
    case hi46x => (simp only [List.getElem?_toArray, List.getElem?_cons_zero, List.getElem?_cons_succ]; rfl)
    case hw46x => rfl
    case hy46x => (intro w hSw; (try dsimp only at hSw); go_simp; first | done | with_reducible rfl)
    try simp only [Act.put, List.setIfInBounds_toArray, List.set_cons_zero, List.set_cons_succ]
    refine' wpAnyH_take (i := 41) (oi := _) (v := _) ?hi47x (by kernel_rfl) (by kernel_rfl) (by kernel_rfl) (fun _ _ _ h => h) (Or.inl ⟨?hw47x, ?hy47x⟩) (by assumption) ?rest47x
    case hi47x => (simp only [List.getElem?_toArray, List.getElem?_cons_zero, List.getElem?_cons_succ]; rfl)
    case hw47x => rfl
    case hy47x => (intro w hSw; (try dsimp only at hSw); go_simp; first | done | with_reducible rfl)
    try simp only [Act.put, List.setIfInBounds_toArray, List.set_cons_zero, List.set_cons_succ]
    refine wpAnyH_ready (rs := [40]) (by kernel_rfl) (by simp) ?_
    refine' AllReadyH.cons (o := _) ?hi49x (fun K hK => ?step49x) AllReadyH.nil
    case hi49x => (simp only [List.getElem?_toArray, List.getElem?_cons_zero, List.getElem?_cons_succ]; rfl)
    go_simp
    (go_at_call 27; refine (CU.out _ BC).mono ?_; rintro e wd ⟨rfl, hb⟩; have BC := BC.trans (hb.mono BC.size))
    try (go_wp2_with fail)
    refine hK.out _ _ ?hS50x (fun hHeld => ?rest50x)
    case hS50x => exact ⟨(BX.out.below BC).at 0 _ rfl, (BX.out.below BC).at 1 _ rfl, (BX.out.below BC).at 2 _ rfl, (BX.out.below BC).at 3 _ rfl, (BX.out.below BC).at 4 _ rfl, (BX.out.below BC).at 5 _ rfl, (NX.out.below BC).at 0 _ rfl, (NX.out.below BC).at 1 _ rfl, (NX.out.below BC).at 2 _ rfl, (NX.out.below BC).at 3 _ rfl, (NX.out.below BC).at 4 _ rfl, (NX.out.below BC).at 5 _ rfl, (MX.out.below BC).at 0 _ rfl, (MX.out.below BC).at 1 _ rfl⟩
    clear hK K
    try simp only [Act.put, List.setIfInBounds_toArray, List.set_cons_zero, List.set_cons_succ]
    refine wpAnyH_ready (rs := [42]) (by kernel_rfl) (by simp) ?_
    refine' AllReadyH.cons (o := _) ?hi52x (fun K hK => ?step52x) AllReadyH.nil
    case hi52x => (simp only [List.getElem?_toArray, List.getElem?_cons_zero, List.getElem?_cons_succ]; rfl)
    go_simp
    (go_at_call 28; refine (CV.out _ BC).mono ?_; rintro e we ⟨rfl, hb⟩; have BC := BC.trans (hb.mono BC.size))
    try (go_wp2_with fail)
    refine hK.out _ _ ?hS53x (fun hHeld => ?rest53x)
    case hS53x => exact ⟨(BX.out.below BC).at 0 _ rfl, (BX.out.below BC).at 1 _ rfl, (BX.out.below BC).at 2 _ rfl, (BX.out.below BC).at 3 _ rfl, (BX.out.below BC).at 4 _ rfl, (BX.out.below BC).at 5 _ rfl, (NX.out.below BC).at 0 _ rfl, (NX.out.below BC).at 1 _ rfl, (NX.out.below BC).at 2 _ rfl, (NX.out.below BC).at 3 _ rfl, (NX.out.below BC).at 4 _ rfl, (NX.out.below BC).at 5 _ rfl, (MX.out.below BC).at 0 _ rfl, (MX.out.below BC).at 1 _ rfl⟩
    clear hK K
    try simp only [Act.put, List.setIfInBounds_toArray, List.set_cons_zero, List.set_cons_succ]
    refine' wpAnyH_take (i := 43) (oi := _) (v := _) ?hi54x (by kernel_rfl) (by kernel_rfl) (by kernel_rfl) (fun _ _ _ h => h) (Or.inl ⟨?hw54x, ?hy54x⟩) (by assumption) ?rest54x
    case hi54x => (simp only [List.getElem?_toArray, List.getElem?_cons_zero, List.getElem?_cons_succ]; rfl)
    case hw54x => rfl
    case hy54x => (intro w hSw; (try dsimp only at hSw); go_simp; first | done | with_reducible rfl)
    try simp only [Act.put, List.setIfInBounds_toArray, List.set_cons_zero, List.set_cons_succ]
    refine' wpAnyH_take (i := 44) (oi := _) (v := _) ?hi55x (by kernel_rfl) (by kernel_rfl) (by kernel_rfl) (fun _ _ _ h => h) (Or.inl ⟨?hw55x, ?hy55x⟩) (by assumption) ?rest55x
    case hi55x => (simp only [List.getElem?_toArray, List.getElem?_cons_zero, List.getElem?_cons_succ]; rfl)
    case hw55x => rfl
    case hy55x => (intro w hSw; (try dsimp only at hSw); go_simp; first | done | with_reducible rfl)
    try simp only [Act.put, List.setIfInBounds_toArray, List.set_cons_zero, List.set_cons_succ]
    refine' wpAnyH_take (i := 45) (oi := _) (v := _) ?hi56x (by kernel_rfl) (by kernel_rfl) (by kernel_rfl) (fun _ _ _ h => h) (Or.inl ⟨?hw56x, ?hy56x⟩) (by assumption) ?rest56x
    case hi56x => (simp only [List.getElem?_toArray, List.getElem?_cons_zero, List.getElem?_cons_succ]; rfl)
    case hw56x => rfl
    case hy56x => (intro w hSw; (try dsimp only at hSw); go_simp; first | done | with_reducible rfl)
    try simp only [Act.put, List.setIfInBounds_toArray, List.set_cons_zero, List.set_cons_succ]
    refine' wpAnyH_take (i := 46) (oi := _) (v := _) ?hi57x (by kernel_rfl) (by kernel_rfl) (by kernel_rfl) (fun _ _ _ h => h) (Or.inl ⟨?hw57x, ?hy57x⟩) (by assumption) ?rest57x
    case hi57x => (simp only [List.getElem?_toArray, List.getElem?_cons_zero, List.getElem?_cons_succ]; rfl)
    case hw57x => rfl
    case hy57x => (intro w hSw; (try dsimp only at hSw); go_simp; first | done | with_reducible rfl)
    try simp only [Act.put, List.setIfInBounds_toArray, List.set_cons_zero, List.set_cons_succ]
    refine wpAnyH_ready (rs := [47]) (by kernel_rfl) (by simp) ?_
    refine' AllReadyH.cons (o := _) ?hi59x (fun K hK => ?step59x) AllReadyH.nil
    case hi59x => (simp only [List.getElem?_toArray, List.getElem?_cons_zero, List.getElem?_cons_succ]; rfl)
    go_simp
    (go_at_call 17; refine (CK.out _ BC).mono ?_; rintro e wf ⟨rfl, hb⟩; have BC := BC.trans (hb.mono BC.size))
    try (go_wp2_with fail)
    refine hK.out _ _ ?hS60x (fun hHeld => ?rest60x)
    case hS60x => exact ⟨(BX.out.below BC).at 0 _ rfl, (BX.out.below BC).at 1 _ rfl, (BX.out.below BC).at 2 _ rfl, (BX.out.below BC).at 3 _ rfl, (BX.out.below BC).at 4 _ rfl, (BX.out.below BC).at 5 _ rfl, (NX.out.below BC).at 0 _ rfl, (NX.out.below BC).at 1 _ rfl, (NX.out.below BC).at 2 _ rfl, (NX.out.below BC).at 3 _ rfl, (NX.out.below BC).at 4 _ rfl, (NX.out.below BC).at 5 _ rfl, (MX.out.below BC).at 0 _ rfl, (MX.out.below BC).at 1 _ rfl⟩
    clear hK K
    try simp only [Act.put, List.setIfInBounds_toArray, List.set_cons_zero, List.set_cons_succ]
    refine' wpAnyH_take (i := 48) (oi := _) (v := _) ?hi61x (by kernel_rfl) (by kernel_rfl) (by kernel_rfl) (fun _ _ _ h => h) (Or.inl ⟨?hw61x, ?hy61x⟩) (by assumption) ?rest61x
    case hi61x => (simp only [List.getElem?_toArray, List.getElem?_cons_zero, List.getElem?_cons_succ]; rfl)
    case hw61x => rfl
    case hy61x => (intro w hSw; (try dsimp only at hSw); go_simp; first | done | with_reducible rfl)
    try simp only [Act.put, List.setIfInBounds_toArray, List.set_cons_zero, List.set_cons_succ]
    refine' wpAnyH_take (i := 49) (oi := _) (v := _) ?hi62x (by kernel_rfl) (by kernel_rfl) (by kernel_rfl) (fun _ _ _ h => h) (Or.inl ⟨?hw62x, ?hy62x⟩) (by assumption) ?rest62x
    case hi62x => (simp only [List.getElem?_toArray, List.getElem?_cons_zero, List.getElem?_cons_succ]; rfl)
    case hw62x => rfl
    case hy62x => (intro w hSw; (try dsimp only at hSw); go_simp; first | done | with_reducible rfl)
    try simp only [Act.put, List.setIfInBounds_toArray, List.set_cons_zero, List.set_cons_succ]
    refine' wpAnyH_take (i := 50) (oi := _) (v := _) ?hi63x (by kernel_rfl) (by kernel_rfl) (by kernel_rfl) (fun _ _ _ h => h) (Or.inl ⟨?hw63x, ?hy63x⟩) (by assumption) ?rest63x
    case hi63x => (simp only [List.getElem?_toArray, List.getElem?_cons_zero, List.getElem?_cons_succ]; rfl)
    case hw63x => rfl
    case hy63x => (intro w hSw; (try dsimp only at hSw); go_simp; first | done | with_reducible rfl)
    try simp only [Act.put, List.setIfInBounds_toArray, List.set_cons_zero, List.set_cons_succ]
    refine' wpAnyH_take (i := 51) (oi := _) (v := _) ?hi64x (by kernel_rfl) (by kernel_rfl) (by kernel_rfl) (fun _ _ _ h => h) (Or.inl ⟨?hw64x, ?hy64x⟩) (by assumption) ?rest64x
    case hi64x => (simp only [List.getElem?_toArray, List.getElem?_cons_zero, List.getElem?_cons_succ]; rfl)
    case hw64x => rfl
    case hy64x => (intro w hSw; (try dsimp only at hSw); go_simp; first | done | with_reducible rfl)
    try simp only [Act.put, List.setIfInBounds_toArray, List.set_cons_zero, List.set_cons_succ]
    refine' wpAnyH_take (i := 52) (oi := _) (v := _) ?hi65x (by kernel_rfl) (by kernel_rfl) (by kernel_rfl) (fun _ _ _ h => h) (Or.inl ⟨?hw65x, ?hy65x⟩) (by assumption) ?rest65x
    case hi65x => (simp only [List.getElem?_toArray, List.getElem?_cons_zero, List.getElem?_cons_succ]; rfl)
    case hw65x => rfl
    case hy65x => (intro w hSw; (try dsimp only at hSw); go_simp; first | done | with_reducible rfl)
    try simp only [Act.put, List.setIfInBounds_toArray, List.set_cons_zero, List.set_cons_succ]
    refine' wpAnyH_take (i := 53) (oi := _) (v := _) ?hi66x (by kernel_rfl) (by kernel_rfl) (by kernel_rfl) (fun _ _ _ h => h) (Or.inl ⟨?hw66x, ?hy66x⟩) (by assumption) ?rest66x
    case hi66x => (simp only [List.getElem?_toArray, List.getElem?_cons_zero, List.getElem?_cons_succ]; rfl)
    case hw66x => rfl
    case hy66x => (intro w hSw; (try dsimp only at hSw); go_simp; first | done | with_reducible rfl)
    try simp only [Act.put, List.setIfInBounds_toArray, List.set_cons_zero, List.set_cons_succ]
    refine' wpAnyH_take (i := 54) (oi := _) (v := _) ?hi67x (by kernel_rfl) (by kernel_rfl) (by kernel_rfl) (fun _ _ _ h => h) (Or.inl ⟨?hw67x, ?hy67x⟩) (by assumption) ?rest67x
    case hi67x => (simp only [List.getElem?_toArray, List.getElem?_cons_zero, List.getElem?_cons_succ]; rfl)
    case hw67x => rfl
    case hy67x => (intro w hSw; (try dsimp only at hSw); go_simp; first | done | with_reducible rfl)
    try simp only [Act.put, List.setIfInBounds_toArray, List.set_cons_zero, List.set_cons_succ]
    refine' wpAnyH_take (i := 55) (oi := _) (v := _) ?hi68x (by kernel_rfl) (by kernel_rfl) (by kernel_rfl) (fun _ _ _ h => h) (Or.inl ⟨?hw68x, ?hy68x⟩) (by assumption) ?rest68x
    case hi68x => (simp only [List.getElem?_toArray, List.getElem?_cons_zero, List.getElem?_cons_succ]; rfl)
    case hw68x => rfl
    case hy68x => (intro w hSw; (try dsimp only at hSw); go_simp; first | done | with_reducible rfl)
    try simp only [Act.put, List.setIfInBounds_toArray, List.set_cons_zero, List.set_cons_succ]
    refine' wpAnyH_take (i := 56) (oi := _) (v := _) ?hi69x (by kernel_rfl) (by kernel_rfl) (by kernel_rfl) (fun _ _ _ h => h) (Or.inl ⟨?hw69x, ?hy69x⟩) (by assumption) ?rest69x
    case hi69x => (simp only [List.getElem?_toArray, List.getElem?_cons_zero, List.getElem?_cons_succ]; rfl)
    case hw69x => rfl
    case hy69x => (intro w hSw; (try dsimp only at hSw); go_simp; first | done | with_reducible rfl)
    try simp only [Act.put, List.setIfInBounds_toArray, List.set_cons_zero, List.set_cons_succ]
    refine' wpAnyH_take (i := 57) (oi := _) (v := _) ?hi70x (by kernel_rfl) (by kernel_rfl) (by kernel_rfl) (fun _ _ _ h => h) (Or.inl ⟨?hw70x, ?hy70x⟩) (by assumption) ?rest70x
    case hi70x => (simp only [List.getElem?_toArray, List.getElem?_cons_zero, List.getElem?_cons_succ]; rfl)
    case hw70x => rfl
    case hy70x => (intro w hSw; (try dsimp only at hSw); go_simp; first | done | with_reducible rfl)
    try simp only [Act.put, List.setIfInBounds_toArray, List.set_cons_zero, List.set_cons_succ]
    refine' wpAnyH_take (i := 58) (oi := _) (v := _) ?hi71x (by kernel_rfl) (by kernel_rfl) (by kernel_rfl) (fun _ _ _ h => h) (Or.inl ⟨?hw71x, ?hy71x⟩) (by assumption) ?rest71x
    case hi71x => (simp only [List.getElem?_toArray, List.getElem?_cons_zero, List.getElem?_cons_succ]; rfl)
    case hw71x => rfl
    case hy71x => (intro w hSw; (try dsimp only at hSw); go_simp; first | done | with_reducible rfl)
    try simp only [Act.put, List.setIfInBounds_toArray, List.set_cons_zero, List.set_cons_succ]
    refine' wpAnyH_take (i := 59) (oi := _) (v := _) ?hi72x (by kernel_rfl) (by kernel_rfl) (by kernel_rfl) (fun _ _ _ h => h) (Or.inl ⟨?hw72x, ?hy72x⟩) (by assumption) ?rest72x
    case hi72x => (simp only [List.getElem?_toArray, List.getElem?_cons_zero, List.getElem?_cons_succ]; rfl)
    case hw72x => rfl
    case hy72x => (intro w hSw; (try dsimp only at hSw); go_simp; first | done | with_reducible rfl)
    try simp only [Act.put, List.setIfInBounds_toArray, List.set_cons_zero, List.set_cons_succ]
    refine wpAnyH_done (by kernel_rfl) ?_ _
    refine NoPanic.normal ?_
    go_wp2
    go_ret
    exact ⟨rfl, HB.out.trans (BC.mono HB.out.size)⟩

end Go.Proofs.YtgcpgoehnjkpbaaGreatDoor.deed
