/-
  The draws of chapter 14: any disk, a disk and a number.
-/
import Derived.Test.YtiehfobcbhgfkaaGreatDoorRwPQ
namespace Go.Proofs.YtiehfobcbhgfkaaGreatDoor.deed
set_option maxRecDepth 20000
open Go.RowKit
open kit strs recs disk kd draw

set_option maxHeartbeats 4000000 in
set_option maxRecDepth 100000 in
theorem any14_any (B0 c : Nat) (a : Option Addr) (len cap : Nat) (w : World) (hBc : B0 ≤ c) (hcw : c < w.heap.size) (hc : CodeAt w B0 a len) (hu : Cur w c a len cap) :
    Calls Tryz.prog 50 #[.pointer (some ⟨c, 0, none⟩)] w (PostD 13000 c a len cap w) := by
  obtain ⟨W, hW⟩ : ∃ W, W = w.alloc (.cells #[.slice none 0 0, .slice none 0 0, .slice none 0 0, .slice none 0 0, .int .i64 0, .int .i64 0] 28) := ⟨_, rfl⟩
  have hWB : Below w.heap.size w W := by rw [hW]; exact (Below.refl _ _).alloc (Nat.le_refl _) _
  have hsz : w.heap.size + 1 = W.heap.size := by rw [hW]; simp
  have br := show disk.Box W w.heap.size [.slice none 0 0, .slice none 0 0, .slice none 0 0, .slice none 0 0, .int .i64 0, .int .i64 0] from by rw [hW]; exact Box.new w #[.slice none 0 0, .slice none 0 0, .slice none 0 0, .slice none 0 0, .int .i64 0, .int .i64 0] _
  have fr : ∀ j, W.frozen? ⟨w.heap.size, j, none⟩ = false := fun j => by rw [hW]; simp
  have cW := hc.below (hWB.mono (by omega))
  have uW := hu.below (hWB.mono (by omega))
  have GW := Lib.hid (grown_below (grown_refl w (some c)) hWB)
  have BR := Lib.hid br
  have FR := Lib.hid fr
  clear br fr hWB hc hu
  go_enter Tryz.func50, Tryz.ntmps50
  go_wp2_with (fail)
  rw [← hW]
  clear hW
  go_wp2_with (fail)
  refine (once_any B0 c a len cap 10 W hBc (by omega) cW uW (by omega) (by omega)).mono ?_
  rintro e w1 ⟨⟨b, rfl⟩, u1, g1⟩
  have code1 := cW.grown hBc (by omega) g1
  have s1 := g1.size
  have B1 := Lib.hid (box_keep BR.out g1 (by omega))
  have F1 := Lib.hid (frozen_keep FR.out BR.out.1 g1 (by omega))
  have G1 := Lib.hid (grown_trans GW.out g1)
  clear BR FR GW g1 cW uW
  cases b with
  | true =>
    go_wp2_with (fail)
    refine (any_any B0 c a len cap w1 hBc (by omega) code1 u1).mono ?_
    rintro e w2 ⟨u, d, rfl, hd, sm, u2, g2⟩
    obtain ⟨aN, aE, aO, aS, cN, cE, cO, cS, rfl⟩ := own_slices hd
    have br2 := box_keep B1.out g2 (by omega)
    have fr2 := frozen_keep F1.out B1.out.1 g2 (by omega)
    have q0 := br2.at 0 _ rfl
    have q1 := br2.at 1 _ rfl
    have q2 := br2.at 2 _ rfl
    have q3 := br2.at 3 _ rfl
    have q4 := br2.at 4 _ rfl
    have q5 := br2.at 5 _ rfl
    obtain ⟨Z, hZ, hbz, hdz, hlz⟩ := six_ret br2 (show w.heap.size < w1.heap.size by omega) hd w.heap.size w2 (Below.refl _ _) (Nat.le_refl _)
    have z0 := hbz.at 0 _ rfl
    have z1 := hbz.at 1 _ rfl
    have z2 := hbz.at 2 _ rfl
    have z3 := hbz.at 3 _ rfl
    have z4 := hbz.at 4 _ rfl
    have z5 := hbz.at 5 _ rfl
    have HZ := Lib.hid hZ
    have SM := Lib.hid (sm.mono (show 6800 ≤ 13000 by decide))
    have CZ := Lib.hid (u2.below (hlz.mono (by omega)))
    have GZ := Lib.hid (grown_below (grown_trans G1.out g2) hlz)
    clear hZ hbz hd u1 u2 g2 br2 code1 sm hlz
    go_wp2
    rw [HZ.out]
    refine bodyPost_ret (v := .agg #[.slice aN d.nodes.length cN, .slice aE d.ents.length cE, .slice aO d.old.length cO, .slice aS d.steps.length cS, .int .i64 d.room, .int .i64 d.next]) (by simp [results, Tryz.results50, go_sem, z0, z1, z2, z3, z4, z5]) rfl ⟨_, _, rfl, hdz.base (by omega), SM.out, CZ.out, GZ.out⟩
  | false =>
    go_wp2_with (fail)
    refine (disk14_any B0 c a len cap w1 hBc (by omega) code1 u1).mono ?_
    rintro e w2 ⟨u, d, rfl, hd, sm, u2, g2⟩
    obtain ⟨aN, aE, aO, aS, cN, cE, cO, cS, rfl⟩ := own_slices hd
    have br2 := box_keep B1.out g2 (by omega)
    have fr2 := frozen_keep F1.out B1.out.1 g2 (by omega)
    have q0 := br2.at 0 _ rfl
    have q1 := br2.at 1 _ rfl
    have q2 := br2.at 2 _ rfl
    have q3 := br2.at 3 _ rfl
    have q4 := br2.at 4 _ rfl
    have q5 := br2.at 5 _ rfl
    obtain ⟨Z, hZ, hbz, hdz, hlz⟩ := six_ret br2 (show w.heap.size < w1.heap.size by omega) hd w.heap.size w2 (Below.refl _ _) (Nat.le_refl _)
    have z0 := hbz.at 0 _ rfl
    have z1 := hbz.at 1 _ rfl
    have z2 := hbz.at 2 _ rfl
    have z3 := hbz.at 3 _ rfl
    have z4 := hbz.at 4 _ rfl
    have z5 := hbz.at 5 _ rfl
    have HZ := Lib.hid hZ
    have SM := Lib.hid (sm)
    have CZ := Lib.hid (u2.below (hlz.mono (by omega)))
    have GZ := Lib.hid (grown_below (grown_trans G1.out g2) hlz)
    clear hZ hbz hd u1 u2 g2 br2 code1 sm hlz
    go_wp2
    rw [HZ.out]
    refine bodyPost_ret (v := .agg #[.slice aN d.nodes.length cN, .slice aE d.ents.length cE, .slice aO d.old.length cO, .slice aS d.steps.length cS, .int .i64 d.room, .int .i64 d.next]) (by simp [results, Tryz.results50, go_sem, z0, z1, z2, z3, z4, z5]) rfl ⟨_, _, rfl, hdz.base (by omega), SM.out, CZ.out, GZ.out⟩

def PostD14 (w : World) (e : Ending) (w' : World) : Prop := ∃ u d, e = .returned u ∧ OwnDisk w.heap.size w' u d ∧ Sm 13000 d ∧ Below w.heap.size w w'
def PostDI (w : World) (e : Ending) (w' : World) : Prop := ∃ u d x, e = .returned (.tuple #[u, .int .i64 x]) ∧ (-1 ≤ x ∧ x ≤ 1000000001) ∧ OwnDisk w.heap.size w' u d ∧ Sm 13000 d ∧ Below w.heap.size w w'

set_option maxHeartbeats 4000000 in
set_option maxRecDepth 100000 in
theorem drawRowOf_any (a : Option Addr) (len cap : Nat) (w : World) (hc : CodeAt w w.heap.size a len) :
    Calls Tryz.prog 13 #[.slice a len cap] w (PostD14 w) := by
  obtain ⟨W, hW⟩ : ∃ W, W = w.alloc (.cells #[.slice none 0 0, .slice none 0 0, .slice none 0 0, .slice none 0 0, .int .i64 0, .int .i64 0] 28) := ⟨_, rfl⟩
  have hWB : Below w.heap.size w W := by rw [hW]; exact (Below.refl _ _).alloc (Nat.le_refl _) _
  have hsz : w.heap.size + 1 = W.heap.size := by rw [hW]; simp
  have br := show disk.Box W w.heap.size [.slice none 0 0, .slice none 0 0, .slice none 0 0, .slice none 0 0, .int .i64 0, .int .i64 0] from by rw [hW]; exact Box.new w #[.slice none 0 0, .slice none 0 0, .slice none 0 0, .slice none 0 0, .int .i64 0, .int .i64 0] _
  have fr : ∀ j, W.frozen? ⟨w.heap.size, j, none⟩ = false := fun j => by rw [hW]; simp
  have cW := hc.below hWB
  have BR := Lib.hid br
  have FR := Lib.hid fr
  have HW := Lib.hid hWB
  clear br fr hWB hc
  go_enter Tryz.func13, Tryz.ntmps13
  go_wp2_with (fail)
  rw [← hW]
  clear hW
  refine (new_any w.heap.size a len cap W (by omega) cW).mono ?_
  rintro e w1 ⟨rfl, u1, b1, s1⟩
  have code1 := cW.below (b1.mono (by omega))
  go_wp2_with (fail)
  refine (any14_any w.heap.size W.heap.size a len cap w1 (by omega) (by omega) code1 u1).mono ?_
  rintro e w2 ⟨u, d, rfl, hd, sm, u2, g2⟩
  obtain ⟨aN, aE, aO, aS, cN, cE, cO, cS, rfl⟩ := own_slices hd
  have b2 : Below W.heap.size W w2 := b1.grown g2 (by omega) (fun k hk => by injection hk with hk; omega)
  have br2 := BR.out.below b2
  have fr2 := frozen_below FR.out BR.out.1 b2
  have q0 := br2.at 0 _ rfl
  have q1 := br2.at 1 _ rfl
  have q2 := br2.at 2 _ rfl
  have q3 := br2.at 3 _ rfl
  have q4 := br2.at 4 _ rfl
  have q5 := br2.at 5 _ rfl
  obtain ⟨Z, hZ, hbz, hdz, hlz⟩ := six_ret br2 (show w.heap.size < w1.heap.size by omega) hd w.heap.size w (HW.out.trans (b2.mono (by omega))) (Nat.le_refl _)
  have z0 := hbz.at 0 _ rfl
  have z1 := hbz.at 1 _ rfl
  have z2 := hbz.at 2 _ rfl
  have z3 := hbz.at 3 _ rfl
  have z4 := hbz.at 4 _ rfl
  have z5 := hbz.at 5 _ rfl
  have HZ := Lib.hid hZ
  have SM := Lib.hid sm
  clear hZ hbz hd u1 b1 u2 g2 b2 br2 code1 cW sm
  go_wp2
  rw [HZ.out]
  refine bodyPost_ret (v := .agg #[.slice aN d.nodes.length cN, .slice aE d.ents.length cE, .slice aO d.old.length cO, .slice aS d.steps.length cS, .int .i64 d.room, .int .i64 d.next]) (by simp [results, Tryz.results13, go_sem, z0, z1, z2, z3, z4, z5]) rfl ⟨_, _, rfl, hdz.base (by omega), SM.out, hlz⟩

set_option maxHeartbeats 4000000 in
set_option maxRecDepth 100000 in
theorem drawChainTexts_any (a : Option Addr) (len cap : Nat) (w : World) (hc : CodeAt w w.heap.size a len) :
    Calls Tryz.prog 33 #[.slice a len cap] w (PostD14 w) := by
  obtain ⟨W, hW⟩ : ∃ W, W = w.alloc (.cells #[.slice none 0 0, .slice none 0 0, .slice none 0 0, .slice none 0 0, .int .i64 0, .int .i64 0] 28) := ⟨_, rfl⟩
  have hWB : Below w.heap.size w W := by rw [hW]; exact (Below.refl _ _).alloc (Nat.le_refl _) _
  have hsz : w.heap.size + 1 = W.heap.size := by rw [hW]; simp
  have br := show disk.Box W w.heap.size [.slice none 0 0, .slice none 0 0, .slice none 0 0, .slice none 0 0, .int .i64 0, .int .i64 0] from by rw [hW]; exact Box.new w #[.slice none 0 0, .slice none 0 0, .slice none 0 0, .slice none 0 0, .int .i64 0, .int .i64 0] _
  have fr : ∀ j, W.frozen? ⟨w.heap.size, j, none⟩ = false := fun j => by rw [hW]; simp
  have cW := hc.below hWB
  have BR := Lib.hid br
  have FR := Lib.hid fr
  have HW := Lib.hid hWB
  clear br fr hWB hc
  go_enter Tryz.func33, Tryz.ntmps33
  go_wp2_with (fail)
  rw [← hW]
  clear hW
  refine (new_any w.heap.size a len cap W (by omega) cW).mono ?_
  rintro e w1 ⟨rfl, u1, b1, s1⟩
  have code1 := cW.below (b1.mono (by omega))
  go_wp2_with (fail)
  refine (any14_any w.heap.size W.heap.size a len cap w1 (by omega) (by omega) code1 u1).mono ?_
  rintro e w2 ⟨u, d, rfl, hd, sm, u2, g2⟩
  obtain ⟨aN, aE, aO, aS, cN, cE, cO, cS, rfl⟩ := own_slices hd
  have b2 : Below W.heap.size W w2 := b1.grown g2 (by omega) (fun k hk => by injection hk with hk; omega)
  have br2 := BR.out.below b2
  have fr2 := frozen_below FR.out BR.out.1 b2
  have q0 := br2.at 0 _ rfl
  have q1 := br2.at 1 _ rfl
  have q2 := br2.at 2 _ rfl
  have q3 := br2.at 3 _ rfl
  have q4 := br2.at 4 _ rfl
  have q5 := br2.at 5 _ rfl
  obtain ⟨Z, hZ, hbz, hdz, hlz⟩ := six_ret br2 (show w.heap.size < w1.heap.size by omega) hd w.heap.size w (HW.out.trans (b2.mono (by omega))) (Nat.le_refl _)
  have z0 := hbz.at 0 _ rfl
  have z1 := hbz.at 1 _ rfl
  have z2 := hbz.at 2 _ rfl
  have z3 := hbz.at 3 _ rfl
  have z4 := hbz.at 4 _ rfl
  have z5 := hbz.at 5 _ rfl
  have HZ := Lib.hid hZ
  have SM := Lib.hid sm
  clear hZ hbz hd u1 b1 u2 g2 b2 br2 code1 cW sm
  go_wp2
  rw [HZ.out]
  refine bodyPost_ret (v := .agg #[.slice aN d.nodes.length cN, .slice aE d.ents.length cE, .slice aO d.old.length cO, .slice aS d.steps.length cS, .int .i64 d.room, .int .i64 d.next]) (by simp [results, Tryz.results33, go_sem, z0, z1, z2, z3, z4, z5]) rfl ⟨_, _, rfl, hdz.base (by omega), SM.out, hlz⟩


end Go.Proofs.YtiehfobcbhgfkaaGreatDoor.deed

namespace Go.Proofs.YtiehfobcbhgfkaaGreatDoor.deed
set_option maxRecDepth 20000
open Go.RowKit
open kit strs recs disk kd draw

set_option maxHeartbeats 8000000 in
set_option maxRecDepth 100000 in
theorem drawTextAt_any (a : Option Addr) (len cap : Nat) (w : World) (hc : CodeAt w w.heap.size a len) :
    Calls Tryz.prog 82 #[.slice a len cap] w (PostDI w) := by
  obtain ⟨W, hW⟩ : ∃ W, W = w.alloc (.cells #[.slice none 0 0, .slice none 0 0, .slice none 0 0, .slice none 0 0, .int .i64 0, .int .i64 0] 28) := ⟨_, rfl⟩
  have hWB : Below w.heap.size w W := by rw [hW]; exact (Below.refl _ _).alloc (Nat.le_refl _) _
  have hsz : w.heap.size + 1 = W.heap.size := by rw [hW]; simp
  have br := show disk.Box W w.heap.size [.slice none 0 0, .slice none 0 0, .slice none 0 0, .slice none 0 0, .int .i64 0, .int .i64 0] from by rw [hW]; exact Box.new w #[.slice none 0 0, .slice none 0 0, .slice none 0 0, .slice none 0 0, .int .i64 0, .int .i64 0] _
  have fr : ∀ j, W.frozen? ⟨w.heap.size, j, none⟩ = false := fun j => by rw [hW]; simp
  have cW := hc.below hWB
  have BR := Lib.hid br
  have FR := Lib.hid fr
  have HW := Lib.hid hWB
  clear br fr hWB hc
  go_enter Tryz.func82, Tryz.ntmps82
  go_wp2_with (fail)
  rw [← hW]
  clear hW
  refine (new_any w.heap.size a len cap W (by omega) cW).mono ?_
  rintro e w1 ⟨rfl, u1, b1, s1⟩
  have code1 := cW.below (b1.mono (by omega))
  go_wp2_with (fail)
  refine (any14_any w.heap.size W.heap.size a len cap w1 (by omega) (by omega) code1 u1).mono ?_
  rintro e w2 ⟨u, d, rfl, hd, sm, u2, g2⟩
  obtain ⟨aN, aE, aO, aS, cN, cE, cO, cS, rfl⟩ := own_slices hd
  have b2 : Below W.heap.size W w2 := b1.grown g2 (by omega) (fun k hk => by injection hk with hk; omega)
  have code2 := code1.grown (by omega) (by omega) g2
  have s2 := g2.size
  obtain ⟨V, hV⟩ : ∃ V, V = w2.alloc (.cells #[.slice aN d.nodes.length cN, .slice aE d.ents.length cE, .slice aO d.old.length cO, .slice aS d.steps.length cS, .int .i64 d.room, .int .i64 d.next] 28) := ⟨_, rfl⟩
  have bV : Below w2.heap.size w2 V := by rw [hV]; exact (Below.refl _ _).alloc (Nat.le_refl _) _
  have sV : V.heap.size = w2.heap.size + 1 := by rw [hV]; simp
  have bxV := show disk.Box V w2.heap.size [.slice aN d.nodes.length cN, .slice aE d.ents.length cE, .slice aO d.old.length cO, .slice aS d.steps.length cS, .int .i64 d.room, .int .i64 d.next] from by rw [hV]; exact Box.new w2 #[.slice aN d.nodes.length cN, .slice aE d.ents.length cE, .slice aO d.old.length cO, .slice aS d.steps.length cS, .int .i64 d.room, .int .i64 d.next] _
  have brV := (BR.out.below b2).below bV
  have frV := frozen_below (frozen_below FR.out BR.out.1 b2) (BR.out.below b2).1 bV
  have hdV := disk_below hd bV
  have cV := code2.below (bV.mono (by omega))
  have uV := u2.below (bV.mono (by omega))
  have BX := Lib.hid bxV
  have BR2 := Lib.hid brV
  have FR2 := Lib.hid frV
  have HD := Lib.hid hdV
  have CV := Lib.hid cV
  have UV := Lib.hid uV
  have SM := Lib.hid sm
  have HB := Lib.hid (HW.out.trans ((b2.trans (bV.mono (by omega))).mono (by omega)))
  have x0 := bxV.at 0 _ rfl
  have x1 := bxV.at 1 _ rfl
  have x2 := bxV.at 2 _ rfl
  have x3 := bxV.at 3 _ rfl
  have x4 := bxV.at 4 _ rfl
  have x5 := bxV.at 5 _ rfl
  clear hd u1 b1 u2 g2 b2 bV bxV brV frV hdV cV uV code1 code2 cW sm BR FR HW
  have zlV : w2.heap.size < V.heap.size := by omega
  have zcV : W.heap.size < V.heap.size := by omega
  clear sV
  go_wp2
  rw [← hV]
  clear hV
  go_region_law (first | (go_simp; go_at_call 131; refine (pickInt_new w.heap.size W.heap.size 7 a len cap [0, 1, 2, 3, 5, -1, 1000000001] V.drew (by omega) (by show _ < V.heap.size; omega) (CV.out.below (Below.refl _ _).drew) (UV.out.below (Below.refl _ _).drew) rfl (by decide) (by decide)).mono ?_; rintro e w3 ⟨x, hxm, rfl, u3, g3⟩; have hx : -1 ≤ x ∧ x ≤ 1000000001 := (by simp only [List.mem_cons, List.not_mem_nil, or_false] at hxm; omega); clear hxm; have bx3 := box_keep (BX.out.below (Below.refl _ _).drew) g3 (by omega); have y0 := bx3.at 0 _ rfl; have y1 := bx3.at 1 _ rfl; have y2 := bx3.at 2 _ rfl; have y3 := bx3.at 3 _ rfl; have y4 := bx3.at 4 _ rfl; have y5 := bx3.at 5 _ rfl; have br3 := box_keep (BR2.out.below (Below.refl _ _).drew) g3 (by omega); have fr3 := frozen_keep (frozen_below FR2.out BR2.out.1 (Below.refl _ _).drew) (BR2.out.below (Below.refl _ _).drew).1 g3 (by omega); have q0 := br3.at 0 _ rfl; have q1 := br3.at 1 _ rfl; have q2 := br3.at 2 _ rfl; have q3 := br3.at 3 _ rfl; have q4 := br3.at 4 _ rfl; have q5 := br3.at 5 _ rfl; have hd3 := Lib.hid (disk_keep (disk_below HD.out (Below.refl _ _).drew) g3 (by omega)); have hb3 := Lib.hid (HB.out.drew.grown g3 (by have := HB.out.size; show _ ≤ V.heap.size; omega) (fun k hk => by injection hk with hk; omega)); have BR3 := Lib.hid br3; clear bx3 u3 g3 br3))
  all_goals
    obtain ⟨Z, hZ, hbz, hdz, hlz⟩ := six_ret BR3.out (show w.heap.size < w1.heap.size by omega) hd3.out w.heap.size w hb3.out (Nat.le_refl _)
    have z0 := hbz.at 0 _ rfl
    have z1 := hbz.at 1 _ rfl
    have z2 := hbz.at 2 _ rfl
    have z3 := hbz.at 3 _ rfl
    have z4 := hbz.at 4 _ rfl
    have z5 := hbz.at 5 _ rfl
    rw [hZ]
    clear hZ hbz x0 x1 x2 x3 x4 x5 y0 y1 y2 y3 y4 y5 q0 q1 q2 q3 q4 q5
    go_wp2
    refine bodyPost_ret (v := .tuple #[.agg #[.slice aN d.nodes.length cN, .slice aE d.ents.length cE, .slice aO d.old.length cO, .slice aS d.steps.length cS, .int .i64 d.room, .int .i64 d.next], .int .i64 x]) (by simp [results, Tryz.results82, go_sem, z0, z1, z2, z3, z4, z5]) rfl ⟨_, _, x, rfl, hx, hdz.base (by omega), SM.out, hlz⟩

set_option maxHeartbeats 4000000 in
set_option maxRecDepth 100000 in
theorem drawBasesBehind_any (a : Option Addr) (len cap : Nat) (w : World) (hc : CodeAt w w.heap.size a len) :
    Calls Tryz.prog 35 #[.slice a len cap] w (PostDI w) := by
  obtain ⟨W, hW⟩ : ∃ W, W = w.alloc (.cells #[.slice none 0 0, .slice none 0 0, .slice none 0 0, .slice none 0 0, .int .i64 0, .int .i64 0] 28) := ⟨_, rfl⟩
  have hWB : Below w.heap.size w W := by rw [hW]; exact (Below.refl _ _).alloc (Nat.le_refl _) _
  have hsz : w.heap.size + 1 = W.heap.size := by rw [hW]; simp
  have br := show disk.Box W w.heap.size [.slice none 0 0, .slice none 0 0, .slice none 0 0, .slice none 0 0, .int .i64 0, .int .i64 0] from by rw [hW]; exact Box.new w #[.slice none 0 0, .slice none 0 0, .slice none 0 0, .slice none 0 0, .int .i64 0, .int .i64 0] _
  have fr : ∀ j, W.frozen? ⟨w.heap.size, j, none⟩ = false := fun j => by rw [hW]; simp
  have cW := hc.below hWB
  have BR := Lib.hid br
  have FR := Lib.hid fr
  have HW := Lib.hid hWB
  clear br fr hWB hc
  go_enter Tryz.func35, Tryz.ntmps35
  go_wp2_with (fail)
  rw [← hW]
  clear hW
  refine (drawTextAt_any a len cap W (cW.raise (by omega))).mono ?_
  rintro e w2 ⟨u, d, x, rfl, hx, hd, sm, b2⟩
  obtain ⟨aN, aE, aO, aS, cN, cE, cO, cS, rfl⟩ := own_slices hd
  have br2 := BR.out.below b2
  have fr2 := frozen_below FR.out BR.out.1 b2
  have q0 := br2.at 0 _ rfl
  have q1 := br2.at 1 _ rfl
  have q2 := br2.at 2 _ rfl
  have q3 := br2.at 3 _ rfl
  have q4 := br2.at 4 _ rfl
  have q5 := br2.at 5 _ rfl
  obtain ⟨Z, hZ, hbz, hdz, hlz⟩ := six_ret br2 (show w.heap.size < W.heap.size by omega) hd w.heap.size w (HW.out.trans (b2.mono (by omega))) (Nat.le_refl _)
  have z0 := hbz.at 0 _ rfl
  have z1 := hbz.at 1 _ rfl
  have z2 := hbz.at 2 _ rfl
  have z3 := hbz.at 3 _ rfl
  have z4 := hbz.at 4 _ rfl
  have z5 := hbz.at 5 _ rfl
  have HZ := Lib.hid hZ
  have SM := Lib.hid sm
  clear hZ hbz hd b2 br2 cW sm
  go_wp2
  rw [HZ.out]
  refine bodyPost_ret (v := .tuple #[.agg #[.slice aN d.nodes.length cN, .slice aE d.ents.length cE, .slice aO d.old.length cO, .slice aS d.steps.length cS, .int .i64 d.room, .int .i64 d.next], .int .i64 x]) (by simp [results, Tryz.results35, go_sem, z0, z1, z2, z3, z4, z5]) rfl ⟨_, _, x, rfl, hx, hdz.base (by omega), SM.out, hlz⟩


end Go.Proofs.YtiehfobcbhgfkaaGreatDoor.deed
