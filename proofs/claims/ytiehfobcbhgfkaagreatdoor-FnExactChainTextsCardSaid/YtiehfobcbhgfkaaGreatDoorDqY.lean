/-
  Deeds keep a disk small and well-formed; a disk in a box beside a cursor.
-/
import Derived.Test.YtiehfobcbhgfkaaGreatDoorDqX
import Derived.Test.YtiehfobcbhgfkaaGreatDoorDrawX
import Derived.Deep.RegionLaw
import Derived.Deep.RegionLawGrows
import Derived.Deep.DeepAppendRoom
namespace Go.Proofs.YtiehfobcbhgfkaaGreatDoor.deed
set_option maxRecDepth 20000
open Go.RowKit
open kit strs recs disk kd draw

theorem sm_remove {K : Nat} {d : D} {s : ByteArray} (h : Sm K d) (hK : K ≤ 200000) : Sm (K + 400) (removeFile d s).1 := by
  unfold removeFile
  split
  · exact h.mono (by omega)
  · rename_i hn
    have h1 : diskOk d = true := by cases e : diskOk d with | true => rfl | false => exact absurd (.inl e) hn
    have h2 : hasE d.ents s = true := by cases e : hasE d.ents s with | true => rfl | false => exact absurd (.inr e) hn
    exact ((more_remove (h.ok hK) (has_small h1 h2)).sm h).clean
theorem sm_rename {K : Nat} {d : D} {s t : ByteArray} (h : Sm K d) (hK : K ≤ 200000) : Sm (K + 400) (renameFile d s t).1 := by
  unfold renameFile
  split
  · exact h.mono (by omega)
  · rename_i hn
    have h1 : diskOk d = true := by cases e : diskOk d with | true => rfl | false => exact absurd (.inl e) hn
    have h2 : hasE d.ents s = true := by cases e : hasE d.ents s with | true => rfl | false => exact absurd (.inr e) hn
    split
    · exact h.mono (by omega)
    · rename_i hm
      have h3 : nam.nok t = true := by cases e : nam.nok t with | true => rfl | false => exact absurd (.inl e) hm
      exact ((more_rename (h.ok hK) (has_small h1 h2) (nok_small h3)).sm h).clean
theorem sm_create {K : Nat} {d : D} {s : ByteArray} (h : Sm K d) (hK : K ≤ 200000) : Sm (K + 400) (createFile d s).1 := by
  unfold createFile
  split
  · exact h.mono (by omega)
  · rename_i h1
    split
    · exact h.mono (by omega)
    · rename_i h2
      split
      · exact h.mono (by omega)
      · split
        · exact h.mono (by omega)
        · have h1 : diskOk d = true := by simpa using h1
          have h2 : nam.nok s = true := by simpa using h2
          obtain ⟨n1, n2⟩ := right_next h1
          exact ((more_create (h.ok hK) (nok_small h2) n1 n2 (itoa_small d.next n1 n2)).sm h).clean
theorem sm_syncNames {K : Nat} {d : D} (h : Sm K d) (hK : K ≤ 200000) : Sm (K + 400) (syncNames d) := by
  unfold syncNames
  split
  · exact h.mono (by omega)
  · rename_i h1
    exact ((more_sync (h.ok hK) (by simpa using h1)).sm h).clean
theorem tot_set : ∀ (xs : List ByteArray) (k : Nat) (x y : ByteArray), xs[k]? = some x → tot (xs.set k y) + x.size = tot xs + y.size
  | [], k, x, y, h => by simp at h
  | z :: r, 0, x, y, h => by
    obtain rfl : z = x := by simpa using h
    simp [tot]
    omega
  | z :: r, k + 1, x, y, h => by
    have ih := tot_set r k x y (by simpa using h)
    simp only [tot, List.set_cons_succ, List.map_cons, List.sum_cons] at ih ⊢
    omega
theorem bulkN_set {d : D} {k : Nat} {n m : Nod} (hx : d.nodes[k]? = some n) : bulkN { d with nodes := d.nodes.set k m } + n.2.1.size = bulkN d + m.2.1.size := by
  unfold bulkN
  simp only [List.map_set, List.length_set]
  have := tot_set (d.nodes.map (·.2.1)) k n.2.1 m.2.1 (by rw [List.getElem?_map, hx]; rfl)
  omega
theorem sm_set {K t : Nat} {d : D} {k : Nat} {n m : Nod} (h : Sm K d) (hK : K ≤ 200000) (hx : d.nodes[k]? = some n) (hm : wfI m.1 ∧ wfI m.2.2) (hz : m.2.1.size ≤ n.2.1.size + t) (ht : t ≤ 400) : Sm (K + 400) { d with nodes := d.nodes.set k m } := by
  obtain ⟨wN, wE, wO, wS, wR, wX, m1, m2, m3, m4⟩ := h.wf
  have hb := bulkN_set (m := m) hx
  have hn := h.n
  have hs : n.2.1.size ≤ K := by
    have h1 := tot_each (d.nodes.map (·.2.1)) n.2.1 (List.mem_map.2 ⟨n, List.mem_of_getElem? hx, rfl⟩)
    unfold bulkN at hn
    omega
  refine ⟨⟨?_, wE, wO, wS, wR, wX, by simpa using m1, m2, m3, m4⟩, by omega, Nat.le_trans h.e (by omega), Nat.le_trans h.o (by omega), Nat.le_trans h.s (by omega)⟩
  intro z hz2
  rcases List.mem_or_eq_of_mem_set hz2 with hz2 | rfl
  · exact wN z hz2
  · exact ⟨hm.1, by unfold maxLen; omega, hm.2⟩
theorem node_of {d : D} {s : ByteArray} (h1 : diskOk d = true) (h2 : hasE d.ents s = true) : d.nodes[nodeK d s]? = some (nodeN d s) := by
  obtain ⟨k, nd, hk, hx⟩ := right_node h1 h2
  rw [nodeK_is hk, nodeN_is hk hx]
  exact hx
theorem sm_syncFile {K : Nat} {d : D} {s : ByteArray} (h : Sm K d) (hK : K ≤ 200000) : Sm (K + 400) (syncFile d s).1 := by
  unfold syncFile
  split
  · exact h.mono (by omega)
  · rename_i hn
    have h1 : diskOk d = true := by cases e : diskOk d with | true => rfl | false => exact absurd (.inl e) hn
    have h2 : hasE d.ents s = true := by cases e : hasE d.ents s with | true => rfl | false => exact absurd (.inr e) hn
    have hx := node_of h1 h2
    have w := h.wf.1 _ (List.mem_of_getElem? hx)
    refine sm_set h hK hx ⟨w.1, ?_⟩ (Nat.le_add_right _ 0) (Nat.zero_le _)
    have := w.2.1
    unfold maxLen at this
    show wfI ((nodeN d s).2.1.size : Int)
    unfold wfI
    omega
theorem sm_append {K : Nat} {d : D} {s t : ByteArray} (h : Sm K d) (hK : K ≤ 200000) (ht : t.size ≤ 400) : Sm (K + 400) (appendFile d s t).1 := by
  unfold appendFile
  split
  · exact h.mono (by omega)
  · rename_i hn
    have h1 : diskOk d = true := by cases e : diskOk d with | true => rfl | false => exact absurd (.inl e) hn
    have h2 : hasE d.ents s = true := by cases e : hasE d.ents s with | true => rfl | false => exact absurd (.inr e) hn
    have hx := node_of h1 h2
    have w := h.wf.1 _ (List.mem_of_getElem? hx)
    split
    · refine sm_set (t := 400) h hK hx ⟨w.1, w.2.2⟩ ?_ (Nat.le_refl _)
      show ((nodeN d s).2.1 ++ t.extract 0 _).size ≤ _
      rw [ByteArray.size_append, ByteArray.size_extract]
      omega
    · refine sm_set (t := 400) h hK hx ⟨w.1, w.2.2⟩ ?_ (Nat.le_refl _)
      show ((nodeN d s).2.1 ++ t).size ≤ _
      rw [ByteArray.size_append]
      omega

/-! ### a disk in a box beside a cursor -/
theorem own_keep {w w' : World} {B s n c : Nat} {e : TypeId} {v : Value} {xs : List Value} (h : w.ownsRow B e s v n xs) (hg : w.grownBy w' (some c)) (hc : c < B) : w'.ownsRow B e s v n xs :=
  h.kept hg (.inr (own_not h hc))
theorem disk_keep {B c : Nat} {w w' : World} {v : Value} {d : D} (h : OwnDisk B w v d) (hg : w.grownBy w' (some c)) (hc : c < B) : OwnDisk B w' v d := by
  obtain ⟨sN, sE, sO, sS, nN, nE, nO, nS, rfl, rN, rE, rO, rS, o⟩ := h
  exact ⟨sN, sE, sO, sS, nN, nE, nO, nS, rfl, own_keep rN hg hc, own_keep rE hg hc, own_keep rO hg hc, own_keep rS hg hc, o⟩
theorem box_keep {w w' : World} {g c : Nat} {cs : List Value} (h : Box w g cs) (k : w.grownBy w' (some c)) (hne : g ≠ c) : Box w' g cs := by
  refine ⟨Nat.lt_of_lt_of_le h.1 k.size, fun i v hi => ?_⟩
  rw [← h.2 i v hi]
  unfold World.cell?
  rw [k.block g h.1 (fun e => hne (Option.some.inj e))]
theorem frozen_keep {w w' : World} {g c : Nat} (h : ∀ j, w.frozen? ⟨g, j, none⟩ = false) (hl : g < w.heap.size) (k : w.grownBy w' (some c)) (hne : g ≠ c) : ∀ j, w'.frozen? ⟨g, j, none⟩ = false := fun j =>
  (World.frozen?_of_block (a := ⟨g, j, none⟩) (k.block g hl (fun e => hne (Option.some.inj e)))).trans (h j)
theorem Desk.keep {B c : Nat} {w w' : World} {b r : Nat} {sN sE sO sS : Value} {d : D} (h : Desk B w b r sN sE sO sS d) (k : w.grownBy w' (some c)) (hb : c < b) (hr : c < r) : Desk B w' b r sN sE sO sS d := by
  obtain ⟨u0, u1, u2, u3, u4, u5, ho⟩ := h.out
  have h1 := h.hb
  exact ⟨box_keep h.box k (by omega), frozen_keep h.fz h.box.1 k (by omega), ⟨u0, u1, u2, u3, u4, u5, box_keep ho k (by omega)⟩, frozen_keep h.fr ho.1 k (by omega), disk_keep h.own k (by omega), h.hb, h.hr, h.ne, Nat.le_trans h.size k.size⟩
/-- beside a cursor (block c) that reads code: w is the world at the beginning, wr the one at hand -/
structure Drw (B B0 c : Nat) (a : Option Addr) (len cap : Nat) (w wr : World) (b r : Nat) (sN sE sO sS : Value) (d : D) : Prop where
  desk : Desk B wr b r sN sE sO sS d
  cur : Cur wr c a len cap
  code : CodeAt wr B0 a len
  grow : w.grownBy wr (some c)
  hBc : B0 ≤ c
  hc : c < w.heap.size
  hb : w.heap.size ≤ b
  hr : w.heap.size ≤ r
theorem Drw.lt {B B0 c : Nat} {a : Option Addr} {len cap : Nat} {w wr : World} {b r : Nat} {sN sE sO sS : Value} {d : D} (h : Drw B B0 c a len cap w wr b r sN sE sO sS d) : c < wr.heap.size ∧ B0 ≤ wr.heap.size := by
  have := h.hc
  have := h.grow.size
  have := h.hBc
  omega
theorem Drw.draw {B B0 c : Nat} {a : Option Addr} {len cap : Nat} {w wr w1 : World} {b r : Nat} {sN sE sO sS : Value} {d : D} (h : Drw B B0 c a len cap w wr b r sN sE sO sS d) (g : wr.grownBy w1 (some c)) (u : Cur w1 c a len cap) : Drw B B0 c a len cap w w1 b r sN sE sO sS d := by
  have h1 := h.hc
  have h2 := h.hb
  have h3 := h.hr
  have h4 := h.hBc
  have h5 := h.grow.size
  exact ⟨h.desk.keep g (by omega) (by omega), u, h.code.grown h.hBc (by omega) g, grown_trans h.grow g, h.hBc, h.hc, h.hb, h.hr⟩
theorem Drw.below {B B0 c : Nat} {a : Option Addr} {len cap : Nat} {w wr w1 : World} {b r : Nat} {sN sE sO sS : Value} {d : D} (h : Drw B B0 c a len cap w wr b r sN sE sO sS d) (g : Below wr.heap.size wr w1) : Drw B B0 c a len cap w w1 b r sN sE sO sS d := by
  have h1 := h.hc
  have h5 := h.grow.size
  have h4 := h.hBc
  exact ⟨h.desk.below g, h.cur.below (g.mono (by omega)), h.code.below (g.mono (by omega)), grown_below h.grow (g.mono (by omega)), h.hBc, h.hc, h.hb, h.hr⟩
/-- a deed has been done: what it gives is laid into the box -/
theorem Drw.deed {B B0 c : Nat} {a : Option Addr} {len cap : Nat} {w w1 w2 : World} {b r : Nat} {sN sE sO sS tN tE tO tS : Value} {d x : D} (h : Drw B B0 c a len cap w w1 b r sN sE sO sS d) (hb : Below w1.heap.size w1 w2)
    (hd : OwnDisk w1.heap.size w2 (.agg #[tN, tE, tO, tS, .int .i64 x.room, .int .i64 x.next]) x) :
    ∃ X, ((((((w2.setCell ⟨b, 0, none⟩ tN).setCell ⟨b, 1, none⟩ tE).setCell ⟨b, 2, none⟩ tO).setCell ⟨b, 3, none⟩ tS).setCell ⟨b, 4, none⟩ (.int .i64 x.room)).setCell ⟨b, 5, none⟩ (.int .i64 x.next)) = X ∧ Drw B B0 c a len cap w X b r tN tE tO tS x := by
  have h1 := h.hc
  have h2 := h.hb
  have h4 := h.hBc
  have h5 := h.grow.size
  have h' := h.below hb
  have hs := h.desk.size
  obtain ⟨u0, u1, u2, u3, u4, u5, ho⟩ := h'.desk.out
  obtain ⟨X, hX, dk, bl⟩ := desk_open h'.desk.box h'.desk.fz ho h'.desk.fr (hd.base hs) h.desk.hb h.desk.hr h.desk.ne h'.desk.size w.heap.size w2 (Below.refl _ _) h2
  exact ⟨X, hX, dk, h'.cur.below (bl.mono (by omega)), h'.code.below (bl.mono (by omega)), grown_below h'.grow bl, h.hBc, h.hc, h.hb, h.hr⟩

end Go.Proofs.YtiehfobcbhgfkaaGreatDoor.deed

namespace Go.Proofs.YtiehfobcbhgfkaaGreatDoor.deed
set_option maxRecDepth 20000
open Go.RowKit
open kit strs recs disk kd draw

theorem pick_new (B c m : Nat) (a : Option Addr) (len cap : Nat) (xs : List ByteArray) (w : World) (hBc : B ≤ c) (hcw : c < w.heap.size) (hc : CodeAt w B a len) (hu : Cur w c a len cap) (hm : xs.length = m) (h0 : 0 < m) (h1 : m ≤ 1000) :
    Calls Tryz.prog 141 #[.pointer (some ⟨c, 0, none⟩), .slice (some ⟨w.heap.size, 0, none⟩) m m] (w.alloc (.cells (xs.map Value.string).toArray 9)) fun e w' => ∃ s, s ∈ xs ∧ e = .returned (.string s) ∧ Cur w' c a len cap ∧ w.grownBy w' (some c) := by
  refine (pick_any B c w.heap.size m m a len cap xs _ hBc (by simp; omega) (hc.below ((Below.refl _ _).alloc (by omega) _)) (hu.below ((Below.refl _ _).alloc (by omega) _)) (by simp) (by omega) hm h0 h1 (fun j hj => ?_)).mono ?_
  · rw [cell_of_row _ w.heap.size j _ 9 (0, 0) (heap_alloc_new w _)]
    rw [List.getElem?_toArray]
  · rintro e w2 ⟨⟨v, hv, rfl⟩, u2, g2⟩
    obtain ⟨s, hs, rfl⟩ := List.mem_map.1 hv
    exact ⟨s, hs, rfl, u2, grown_trans (World.grownBy_alloc w _ (some c)) g2⟩
theorem pickInt_new (B c m : Nat) (a : Option Addr) (len cap : Nat) (xs : List Int) (w : World) (hBc : B ≤ c) (hcw : c < w.heap.size) (hc : CodeAt w B a len) (hu : Cur w c a len cap) (hm : xs.length = m) (h0 : 0 < m) (h1 : m ≤ 1000) :
    Calls Tryz.prog 131 #[.pointer (some ⟨c, 0, none⟩), .slice (some ⟨w.heap.size, 0, none⟩) m m] (w.alloc (.cells (xs.map (Value.int .i64)).toArray 3)) fun e w' => ∃ s, s ∈ xs ∧ e = .returned (.int .i64 s) ∧ Cur w' c a len cap ∧ w.grownBy w' (some c) := by
  refine (pickInt_any B c w.heap.size m m a len cap xs _ hBc (by simp; omega) (hc.below ((Below.refl _ _).alloc (by omega) _)) (hu.below ((Below.refl _ _).alloc (by omega) _)) (by simp) (by omega) hm h0 h1 (fun j hj => ?_)).mono ?_
  · rw [cell_of_row _ w.heap.size j _ 3 (0, 0) (heap_alloc_new w _)]
    rw [List.getElem?_toArray]
  · rintro e w2 ⟨⟨v, hv, rfl⟩, u2, g2⟩
    obtain ⟨s, hs, rfl⟩ := List.mem_map.1 hv
    exact ⟨s, hs, rfl, u2, grown_trans (World.grownBy_alloc w _ (some c)) g2⟩
theorem own_nil (B : Nat) (w : World) (e : TypeId) (s : Nat) : w.ownsRow B e s (.slice none 0 0) 0 [] := ⟨by simp, .inl ⟨rfl, rfl⟩⟩
theorem off_nil (v : Value) : Off (.slice none 0 0) v := fun g h => by simp [Value.ownBlock] at h
theorem own_newD (B : Nat) (w : World) (x : Int) : OwnDisk B w (.agg #[.slice none 0 0, .slice none 0 0, .slice none 0 0, .slice none 0 0, .int .i64 x, .int .i64 1]) ⟨[], [], [], [], x, 1⟩ :=
  ⟨_, _, _, _, 0, 0, 0, 0, rfl, own_nil _ _ _ _, own_nil _ _ _ _, own_nil _ _ _ _, own_nil _ _ _ _, off_nil _, off_nil _, off_nil _, off_nil _, off_nil _, off_nil _⟩
theorem sm_new (x : Int) (h : wfI x) : Sm 0 ⟨[], [], [], [], x, 1⟩ :=
  ⟨⟨(fun n hn => by cases hn), (fun n hn => by cases hn), (fun n hn => by cases hn), (fun n hn => by cases hn), h, (show wfI 1 from ⟨by decide, by decide⟩), Nat.zero_le _, Nat.zero_le _, Nat.zero_le _, Nat.zero_le _⟩, Nat.le_refl _, Nat.le_refl _, Nat.le_refl _, Nat.le_refl _⟩
/-- a small disk of the call's own -/
def PostD (K c : Nat) (a : Option Addr) (len cap : Nat) (w : World) (e : Ending) (w' : World) : Prop :=
  ∃ u d, e = .returned u ∧ OwnDisk w.heap.size w' u d ∧ Sm K d ∧ Cur w' c a len cap ∧ w.grownBy w' (some c)
/-- an end: the disk of the box is laid into the result -/
theorem Drw.ret {B B0 c : Nat} {a : Option Addr} {len cap : Nat} {w wr : World} {b r : Nat} {sN sE sO sS : Value} {d : D} (h : Drw B B0 c a len cap w wr b r sN sE sO sS d) :
    ∃ X, ((((((wr.setCell ⟨r, 0, none⟩ sN).setCell ⟨r, 1, none⟩ sE).setCell ⟨r, 2, none⟩ sO).setCell ⟨r, 3, none⟩ sS).setCell ⟨r, 4, none⟩ (.int .i64 d.room)).setCell ⟨r, 5, none⟩ (.int .i64 d.next)) = X ∧
      disk.Box X r [sN, sE, sO, sS, .int .i64 d.room, .int .i64 d.next] ∧ OwnDisk w.heap.size X (.agg #[sN, sE, sO, sS, .int .i64 d.room, .int .i64 d.next]) d ∧ Cur X c a len cap ∧ w.grownBy X (some c) := by
  obtain ⟨u0, u1, u2, u3, u4, u5, ho⟩ := h.desk.out
  have h1 := h.hc
  have h2 := h.hr
  have h3 := h.desk.hr
  obtain ⟨X, hX, hb, hd, hl⟩ := six_ret ho h.desk.hr h.desk.own w.heap.size wr (Below.refl _ _) h2
  exact ⟨X, hX, hb, hd.base (by omega), h.cur.below (hl.mono (by omega)), grown_below h.grow hl⟩

set_option maxHeartbeats 16000000 in
set_option maxRecDepth 100000 in
theorem disk_any (B0 c : Nat) (a : Option Addr) (len cap : Nat) (w : World) (hBc : B0 ≤ c) (hcw : c < w.heap.size) (hc : CodeAt w B0 a len) (hu : Cur w c a len cap) :
    Calls Tryz.prog 140 #[.pointer (some ⟨c, 0, none⟩)] w (PostD 6400 c a len cap w) := by
  obtain ⟨W, hW⟩ : ∃ W, W = w.alloc (.cells #[.slice none 0 0, .slice none 0 0, .slice none 0 0, .slice none 0 0, .int .i64 0, .int .i64 0] 28) := ⟨_, rfl⟩
  have hWB : Below w.heap.size w W := by rw [hW]; exact (Below.refl _ _).alloc (Nat.le_refl _) _
  have hsz : w.heap.size + 1 = W.heap.size := by rw [hW]; simp
  have br := show disk.Box W w.heap.size [.slice none 0 0, .slice none 0 0, .slice none 0 0, .slice none 0 0, .int .i64 0, .int .i64 0] from by rw [hW]; exact Box.new w #[.slice none 0 0, .slice none 0 0, .slice none 0 0, .slice none 0 0, .int .i64 0, .int .i64 0] _
  have fr : ∀ j, W.frozen? ⟨w.heap.size, j, none⟩ = false := fun j => by rw [hW]; simp
  have cW := hc.below (hWB.mono (by omega))
  have uW := hu.below (hWB.mono (by omega))
  have BR := Lib.hid br
  have FR := Lib.hid fr
  have HW := Lib.hid hWB
  clear br fr hWB hc hu
  go_enter Tryz.func140, Tryz.ntmps140
  go_wp2_with (fail)
  rw [← hW]
  clear hW
  go_wp2_with (fail)
  refine (pickInt_new B0 c 5 a len cap [4000, 4000, 4000, 300, 100] W hBc (by omega) cW uW rfl (by decide) (by decide)).mono ?_
  rintro e w1 ⟨x, hx, rfl, u1, g1⟩
  have hx2 : 0 ≤ x ∧ x ≤ 4000 := by
    simp only [List.mem_cons, List.not_mem_nil, or_false] at hx
    omega
  have code1 := cW.grown hBc (by omega) g1
  have hs1 := g1.size
  go_wp2_with (fail)
  refine (specDiskNew x w1).mono ?_
  rw [if_neg (show ¬ x < 0 by omega)]
  rintro e w2 ⟨rfl, hb2⟩
  have HG2 := Lib.hid (grown_below g1 (hb2.mono hs1))
  have B2 := Lib.hid ((box_keep BR.out g1 (by omega)).below hb2)
  have F2 := Lib.hid (frozen_below (frozen_keep FR.out BR.out.1 g1 (by omega)) (box_keep BR.out g1 (by omega)).1 hb2)
  have C2 := Lib.hid (u1.below (hb2.mono (by omega)))
  have K2 := Lib.hid (code1.below (hb2.mono (by omega)))
  have hs2 := hb2.size
  obtain ⟨V, hV⟩ : ∃ V, V = w2.alloc (.cells #[.slice none 0 0, .slice none 0 0, .slice none 0 0, .slice none 0 0, .int .i64 x, .int .i64 1] 28) := ⟨_, rfl⟩
  have bV : Below w2.heap.size w2 V := by rw [hV]; exact (Below.refl _ _).alloc (Nat.le_refl _) _
  have sV : V.heap.size = w2.heap.size + 1 := by rw [hV]; simp
  have DW : Drw V.heap.size B0 c a len cap w V w2.heap.size w.heap.size (.slice none 0 0) (.slice none 0 0) (.slice none 0 0) (.slice none 0 0) ⟨[], [], [], [], x, 1⟩ := by
    refine ⟨⟨?_, ?_, ⟨_, _, _, _, _, _, B2.out.below bV⟩, frozen_below F2.out B2.out.1 bV, own_newD _ _ _, by omega, by omega, by omega, Nat.le_refl _⟩, C2.out.below (bV.mono (by omega)), K2.out.below (bV.mono (by omega)), ?_, hBc, hcw, by omega, Nat.le_refl _⟩
    · rw [hV]; exact Box.new w2 #[.slice none 0 0, .slice none 0 0, .slice none 0 0, .slice none 0 0, .int .i64 x, .int .i64 1] _
    · intro j; rw [hV]; simp
    · exact grown_below (grown_trans (grown_below (grown_refl w (some c)) HW.out) HG2.out) (bV.mono (by omega))
  have DW := Lib.hid DW
  have SM := Lib.hid (sm_new x (by unfold wfI; omega))
  clear B2 F2 C2 K2 HG2 u1 g1 code1 hb2 hx cW uW bV BR FR HW
  go_wp2
  rw [← hV]
  clear hV
  go_loopw [4] (fun i wr => ∃ (k : Nat) (sN sE sO sS : Value) (d : D), k ≤ 8 ∧ i = .int .i64 k ∧ Hid (Sm (800 * k) d) ∧ Hid (Drw V.heap.size B0 c a len cap w wr w2.heap.size w.heap.size sN sE sO sS d)) (fun i _ => 8 - (intOf i).toNat)
  case atStart => exact ⟨0, _, _, _, _, _, Nat.zero_le _, rfl, SM, DW⟩
  case round =>
    clear DW SM
    obtain ⟨k, sN, sE, sO, sS, d, hk, rfl, SM, H0⟩ := hrel
    go_wp2_with (fail)
    refine (below_any B0 c a len cap 9 wr hBc H0.out.lt.2 H0.out.code H0.out.cur (by omega) (by omega)).mono ?_
    rintro e w3 ⟨⟨z, l3, m3, rfl⟩, u3, g3⟩
    have H1 := Lib.hid (H0.out.draw g3 u3)
    clear H0 g3 u3
    obtain ⟨aN, aE, aO, aS, cN, cE, cO, cS, rfl, rfl, rfl, rfl, _, _, _, _⟩ := H1.out.desk.shapes
    by_cases hlt : (k : Int) < z
    · have OK := Lib.hid (SM.out.ok (by omega))
      go_wp2_with (fail)
      refine (pick_new B0 c 6 a len cap [{ data := #[97] }, { data := #[98] }, { data := #[115, 48, 48, 48, 48, 48, 48, 48, 48, 46, 115, 101, 103] }, { data := #[115, 48, 48, 48, 48, 48, 48, 48, 51, 46, 115, 101, 103] }, { data := #[115, 48, 48, 48, 48, 48, 48, 48, 48, 46, 115, 101, 103, 46, 116, 109, 112] }, { data := #[99] }] w3 hBc H1.out.lt.1 H1.out.code H1.out.cur rfl (by decide) (by decide)).mono ?_
      rintro e w4 ⟨s, hs, rfl, u4, g4⟩
      have hsz2 : s.size ≤ 17 := by
        simp only [List.mem_cons, List.not_mem_nil, or_false] at hs
        rcases hs with rfl | rfl | rfl | rfl | rfl | rfl <;> decide
      have H2 := Lib.hid (H1.out.draw g4 u4)
      clear H1 g4 u4 hs
      go_wp2_with (fail)
      refine (below_any B0 c a len cap 8 w4 hBc H2.out.lt.2 H2.out.code H2.out.cur (by omega) (by omega)).mono ?_
      rintro e w5 ⟨⟨y, l5, m5, rfl⟩, u5, g5⟩
      have H3 := Lib.hid (H2.out.draw g5 u5)
      clear H2 g5 u5
      have x0 := H3.out.desk.box.at 0 _ rfl
      have x1 := H3.out.desk.box.at 1 _ rfl
      have x2 := H3.out.desk.box.at 2 _ rfl
      have x3 := H3.out.desk.box.at 3 _ rfl
      have x4 := H3.out.desk.box.at 4 _ rfl
      have x5 := H3.out.desk.box.at 5 _ rfl
      have fz := H3.out.desk.fz
      rcases (show y = 0 ∨ y = 1 ∨ y = 2 ∨ y = 3 ∨ y = 4 ∨ y = 5 ∨ (¬ y = 0 ∧ ¬ y = 1 ∧ ¬ y = 2 ∧ ¬ y = 3 ∧ ¬ y = 4 ∧ ¬ y = 5) by omega) with rfl | rfl | rfl | rfl | rfl | rfl | ⟨n0, n1, n2, n3, n4, n5⟩
      · go_wp2_with (fail)
        refine (specRemove _ d s w5 OK.out H3.out.desk.own.is).mono ?_
        rintro e w6 ⟨u, rfl, hd, hb⟩
        obtain ⟨tN, tE, tO, tS, dN, dE, dO, dS, rfl⟩ := own_slices hd
        have SM2 := Lib.hid ((sm_remove (s := s) SM.out (by omega)).mono (show 800 * k + 400 ≤ 800 * (k + 1) by omega))
        have b6 := H3.out.desk.below hb
        have y0 := b6.box.at 0 _ rfl
        have y1 := b6.box.at 1 _ rfl
        have y2 := b6.box.at 2 _ rfl
        have y3 := b6.box.at 3 _ rfl
        have y4 := b6.box.at 4 _ rfl
        have y5 := b6.box.at 5 _ rfl
        have yf := b6.fz
        obtain ⟨_, rfl, HX⟩ := H3.out.deed hb hd
        have HX := Lib.hid HX
        clear b6 hd hb x0 x1 x2 x3 x4 x5 fz
        go_wp2
        go_roundw
        case rel => exact ⟨k + 1, _, _, _, _, _, by omega, by go_num, SM2, HX⟩
        case measure => simp [intOf]; omega
      · go_wp2_with (fail)
        refine (specSyncNames _ d w5 OK.out H3.out.desk.own.is).mono ?_
        rintro e w6 ⟨u, rfl, hd, hb⟩
        obtain ⟨tN, tE, tO, tS, dN, dE, dO, dS, rfl⟩ := own_slices hd
        have SM2 := Lib.hid ((sm_syncNames SM.out (by omega)).mono (show 800 * k + 400 ≤ 800 * (k + 1) by omega))
        have b6 := H3.out.desk.below hb
        have y0 := b6.box.at 0 _ rfl
        have y1 := b6.box.at 1 _ rfl
        have y2 := b6.box.at 2 _ rfl
        have y3 := b6.box.at 3 _ rfl
        have y4 := b6.box.at 4 _ rfl
        have y5 := b6.box.at 5 _ rfl
        have yf := b6.fz
        obtain ⟨_, rfl, HX⟩ := H3.out.deed hb hd
        have HX := Lib.hid HX
        clear b6 hd hb x0 x1 x2 x3 x4 x5 fz
        go_wp2
        go_roundw
        case rel => exact ⟨k + 1, _, _, _, _, _, by omega, by go_num, SM2, HX⟩
        case measure => simp [intOf]; omega
      · go_wp2_with (fail)
        refine (specSync _ d s w5 OK.out H3.out.desk.own.is).mono ?_
        rintro e w6 ⟨u, rfl, hd, hb⟩
        obtain ⟨tN, tE, tO, tS, dN, dE, dO, dS, rfl⟩ := own_slices hd
        have SM2 := Lib.hid ((sm_syncFile (s := s) SM.out (by omega)).mono (show 800 * k + 400 ≤ 800 * (k + 1) by omega))
        have b6 := H3.out.desk.below hb
        have y0 := b6.box.at 0 _ rfl
        have y1 := b6.box.at 1 _ rfl
        have y2 := b6.box.at 2 _ rfl
        have y3 := b6.box.at 3 _ rfl
        have y4 := b6.box.at 4 _ rfl
        have y5 := b6.box.at 5 _ rfl
        have yf := b6.fz
        obtain ⟨_, rfl, HX⟩ := H3.out.deed hb hd
        have HX := Lib.hid HX
        clear b6 hd hb x0 x1 x2 x3 x4 x5 fz
        go_wp2
        go_roundw
        case rel => exact ⟨k + 1, _, _, _, _, _, by omega, by go_num, SM2, HX⟩
        case measure => simp [intOf]; omega
      · have H3d := Lib.hid (H3.out.below ((Below.refl w5.heap.size w5).drew))
        have zl5 := H3.out.desk.box.1
        go_wp2
        go_region_law (first | (go_simp; go_at_call 141; refine (pick_new B0 c 3 a len cap [{ data := #[98] }, { data := #[120] }, { data := #[115, 48, 48, 48, 48, 48, 48, 48, 51, 46, 115, 101, 103] }] w5.drew hBc H3d.out.lt.1 H3d.out.code H3d.out.cur rfl (by decide) (by decide)).mono ?_; rintro e w6 ⟨t, ht, rfl, u6, g6⟩; have htz : t.size ≤ 17 := (by simp only [List.mem_cons, List.not_mem_nil, or_false] at ht; rcases ht with rfl | rfl | rfl <;> decide); have H4 := Lib.hid (H3d.out.draw g6 u6); have v0 := H4.out.desk.box.at 0 _ rfl; have v1 := H4.out.desk.box.at 1 _ rfl; have v2 := H4.out.desk.box.at 2 _ rfl; have v3 := H4.out.desk.box.at 3 _ rfl; have v4 := H4.out.desk.box.at 4 _ rfl; have v5 := H4.out.desk.box.at 5 _ rfl; clear ht) | (go_simp; go_at_call 185; refine (specRename _ d s t w6 OK.out (by omega) H4.out.desk.own.is).mono ?_; rintro e w7 ⟨u, rfl, hd, hb⟩; obtain ⟨tN, tE, tO, tS, dN, dE, dO, dS, rfl⟩ := own_slices hd; have SM2 := Lib.hid ((sm_rename (s := s) (t := t) SM.out (by omega)).mono (show 800 * k + 400 ≤ 800 * (k + 1) by omega)); have b6 := H4.out.desk.below hb; have y0 := b6.box.at 0 _ rfl; have y1 := b6.box.at 1 _ rfl; have y2 := b6.box.at 2 _ rfl; have y3 := b6.box.at 3 _ rfl; have y4 := b6.box.at 4 _ rfl; have y5 := b6.box.at 5 _ rfl; have yf := b6.fz; obtain ⟨_, rfl, HX⟩ := H4.out.deed hb hd; have HX := Lib.hid HX; clear b6 hd hb))
        all_goals
          go_wp2
          go_roundw
          case rel => exact ⟨k + 1, _, _, _, _, _, by omega, by go_num, SM2, HX⟩
          case measure => simp [intOf]; omega
      · go_wp2_with (fail)
        refine (specCreate _ d s w5 OK.out (by omega) H3.out.desk.own.is).mono ?_
        rintro e w6 ⟨u, rfl, hd, hb⟩
        obtain ⟨tN, tE, tO, tS, dN, dE, dO, dS, rfl⟩ := own_slices hd
        have SM2 := Lib.hid ((sm_create (s := s) SM.out (by omega)).mono (show 800 * k + 400 ≤ 800 * (k + 1) by omega))
        have b6 := H3.out.desk.below hb
        have y0 := b6.box.at 0 _ rfl
        have y1 := b6.box.at 1 _ rfl
        have y2 := b6.box.at 2 _ rfl
        have y3 := b6.box.at 3 _ rfl
        have y4 := b6.box.at 4 _ rfl
        have y5 := b6.box.at 5 _ rfl
        have yf := b6.fz
        obtain ⟨_, rfl, HX⟩ := H3.out.deed hb hd
        have HX := Lib.hid HX
        clear b6 hd hb x0 x1 x2 x3 x4 x5 fz
        go_wp2
        go_roundw
        case rel => exact ⟨k + 1, _, _, _, _, _, by omega, by go_num, SM2, HX⟩
        case measure => simp [intOf]; omega
      · go_wp2_with (fail)
        refine (specCreate _ d s w5 OK.out (by omega) H3.out.desk.own.is).mono ?_
        rintro e w6 ⟨u, rfl, hd, hb⟩
        obtain ⟨tN, tE, tO, tS, dN, dE, dO, dS, rfl⟩ := own_slices hd
        have SM2 := Lib.hid ((sm_create (s := s) SM.out (by omega)).mono (show 800 * k + 400 ≤ 800 * (k + 1) by omega))
        have b6 := H3.out.desk.below hb
        have y0 := b6.box.at 0 _ rfl
        have y1 := b6.box.at 1 _ rfl
        have y2 := b6.box.at 2 _ rfl
        have y3 := b6.box.at 3 _ rfl
        have y4 := b6.box.at 4 _ rfl
        have y5 := b6.box.at 5 _ rfl
        have yf := b6.fz
        obtain ⟨_, rfl, HX⟩ := H3.out.deed hb hd
        have HX := Lib.hid HX
        clear b6 hd hb x0 x1 x2 x3 x4 x5 fz
        go_wp2
        go_roundw
        case rel => exact ⟨k + 1, _, _, _, _, _, by omega, by go_num, SM2, HX⟩
        case measure => simp [intOf]; omega
      · go_wp2_with (fail)
        refine (specCreate _ d s w5 OK.out (by omega) H3.out.desk.own.is).mono ?_
        rintro e w6 ⟨u, rfl, hd, hb⟩
        obtain ⟨tN, tE, tO, tS, dN, dE, dO, dS, rfl⟩ := own_slices hd
        have SM1 := Lib.hid (sm_create SM.out (by omega) (s := s))
        generalize (createFile d s).1 = d1 at hd SM1 ⊢
        have b6 := H3.out.desk.below hb
        have y0 := b6.box.at 0 _ rfl
        have y1 := b6.box.at 1 _ rfl
        have y2 := b6.box.at 2 _ rfl
        have y3 := b6.box.at 3 _ rfl
        have y4 := b6.box.at 4 _ rfl
        have y5 := b6.box.at 5 _ rfl
        have yf := b6.fz
        obtain ⟨X, hX, HX0⟩ := H3.out.deed hb hd
        have HX0 := Lib.hid HX0
        have HX1 := Lib.hid hX
        have OK1 := Lib.hid (SM1.out.ok (by omega))
        clear b6 hd hb x0 x1 x2 x3 x4 x5 fz hX
        go_wp2
        rw [HX1.out]
        clear HX1 y0 y1 y2 y3 y4 y5 yf
        have x0 := HX0.out.desk.box.at 0 _ rfl
        have x1 := HX0.out.desk.box.at 1 _ rfl
        have x2 := HX0.out.desk.box.at 2 _ rfl
        have x3 := HX0.out.desk.box.at 3 _ rfl
        have x4 := HX0.out.desk.box.at 4 _ rfl
        have x5 := HX0.out.desk.box.at 5 _ rfl
        have zlX := HX0.out.desk.box.1
        have HXd := Lib.hid (HX0.out.below ((Below.refl X.heap.size X).drew))
        go_region_law (first | (go_simp; go_at_call 139; refine (below_any B0 c a len cap 12 X.drew hBc HXd.out.lt.2 HXd.out.code HXd.out.cur (by omega) (by omega)).mono ?_; rintro e w7 ⟨⟨q, l7, m7, rfl⟩, u7, g7⟩; obtain ⟨n, rfl⟩ := Int.eq_ofNat_of_zero_le l7; have H7 := Lib.hid (HXd.out.draw g7 u7); have v0 := H7.out.desk.box.at 0 _ rfl; have v1 := H7.out.desk.box.at 1 _ rfl; have v2 := H7.out.desk.box.at 2 _ rfl; have v3 := H7.out.desk.box.at 3 _ rfl; have v4 := H7.out.desk.box.at 4 _ rfl; have v5 := H7.out.desk.box.at 5 _ rfl) | (go_simp; go_at_call 186; refine (text_any B0 c a len cap n w7 hBc H7.out.lt.1 H7.out.code H7.out.cur (by omega)).mono ?_; rintro e w8 ⟨⟨t, htz, rfl⟩, u8, g8⟩; have H8 := Lib.hid (H7.out.draw g8 u8); have r0 := H8.out.desk.box.at 0 _ rfl; have r1 := H8.out.desk.box.at 1 _ rfl; have r2 := H8.out.desk.box.at 2 _ rfl; have r3 := H8.out.desk.box.at 3 _ rfl; have r4 := H8.out.desk.box.at 4 _ rfl; have r5 := H8.out.desk.box.at 5 _ rfl) | (go_simp; go_at_call 30; refine (specAppend _ d1 s t w8 OK1.out (by omega) H8.out.desk.own.is).mono ?_; rintro e w9 ⟨u, rfl, hd, hb⟩; obtain ⟨tN, tE, tO, tS, dN, dE, dO, dS, rfl⟩ := own_slices hd; have SM2 := Lib.hid ((sm_append (s := s) (t := t) SM1.out (by omega) (show t.size ≤ 400 by omega)).mono (show 800 * k + 400 + 400 ≤ 800 * (k + 1) by omega)); have b6 := H8.out.desk.below hb; have y0 := b6.box.at 0 _ rfl; have y1 := b6.box.at 1 _ rfl; have y2 := b6.box.at 2 _ rfl; have y3 := b6.box.at 3 _ rfl; have y4 := b6.box.at 4 _ rfl; have y5 := b6.box.at 5 _ rfl; have yf := b6.fz; obtain ⟨_, rfl, HX⟩ := H8.out.deed hb hd; have HX := Lib.hid HX; clear b6 hd hb))
        all_goals
          go_wp2
          go_roundw
          case rel => exact ⟨k + 1, _, _, _, _, _, by omega, by go_num, SM2, HX⟩
          case measure => simp [intOf]; omega
    · have HS := Lib.hid (SM.out.mono (show 800 * k ≤ 6400 by omega))
      have x0 := H1.out.desk.box.at 0 _ rfl
      have x1 := H1.out.desk.box.at 1 _ rfl
      have x2 := H1.out.desk.box.at 2 _ rfl
      have x3 := H1.out.desk.box.at 3 _ rfl
      have x4 := H1.out.desk.box.at 4 _ rfl
      have x5 := H1.out.desk.box.at 5 _ rfl
      obtain ⟨u0, u1, u2, u3, u4, u5, ho⟩ := H1.out.desk.out
      have q0 := ho.at 0 _ rfl
      have q1 := ho.at 1 _ rfl
      have q2 := ho.at 2 _ rfl
      have q3 := ho.at 3 _ rfl
      have q4 := ho.at 4 _ rfl
      have q5 := ho.at 5 _ rfl
      have fr2 := H1.out.desk.fr
      obtain ⟨Z, hZ, hbz, hdz, hcz, hgz⟩ := H1.out.ret
      have z0 := hbz.at 0 _ rfl
      have z1 := hbz.at 1 _ rfl
      have z2 := hbz.at 2 _ rfl
      have z3 := hbz.at 3 _ rfl
      have z4 := hbz.at 4 _ rfl
      have z5 := hbz.at 5 _ rfl
      have HZ := Lib.hid hZ
      clear hZ hbz ho
      go_wp2
      rw [HZ.out]
      refine bodyPost_ret (v := .agg #[.slice aN d.nodes.length cN, .slice aE d.ents.length cE, .slice aO d.old.length cO, .slice aS d.steps.length cS, .int .i64 d.room, .int .i64 d.next]) (by simp [results, Tryz.results140, go_sem, z0, z1, z2, z3, z4, z5]) rfl ⟨_, _, rfl, hdz, HS.out, hcz, hgz⟩

end Go.Proofs.YtiehfobcbhgfkaaGreatDoor.deed

namespace Go.Proofs.YtiehfobcbhgfkaaGreatDoor.deed
set_option maxRecDepth 20000
open Go.RowKit
open kit strs recs disk kd draw

theorem row_ne {w : World} {B s n b : Nat} {e t : TypeId} {v : Value} {xs : List Value} {cs : Array Value} (hu : w.ownsRow B e s v n xs) (hb : w.heap[b]? = some (.cells cs t)) (hne : e ≠ t) : v.ownBlock ≠ some b := fun h => by
  rcases hu.2 with ⟨rfl, _⟩ | ⟨g1, c1, cur1, rfl, _, k1, _⟩
  · simp [Value.ownBlock] at h
  · simp only [Value.ownBlock, Option.some.injEq] at h
    subst h
    rw [k1] at hb
    simp only [Option.some.injEq] at hb
    injection hb with _ h
    exact hne h
theorem tb_kept {wr w1 : World} {b : Nat} {cs : Array Value} {t : TypeId} {row : Option Nat} (h : wr.heap[b]? = some (.cells cs t)) (g : wr.grownBy w1 row) (hl : b < wr.heap.size) (hne : some b ≠ row) : w1.heap[b]? = some (.cells cs t) := (g.block b hl hne).trans h
theorem disk_off {B : Nat} {w : World} {v : Value} {d : D} {b j : Nat} {u : Value} {cs : Array Value} (h : OwnDisk B w v d) (hb : w.heap[b]? = some (.cells cs 28)) : OwnDisk B (w.setCell ⟨b, j, none⟩ u) v d := by
  obtain ⟨sN, sE, sO, sS, nN, nE, nO, nS, rfl, rN, rE, rO, rS, o⟩ := h
  exact ⟨sN, sE, sO, sS, nN, nE, nO, nS, rfl, own_setOther rN _ _ _ (row_ne rN hb (by decide)), own_setOther rE _ _ _ (row_ne rE hb (by decide)), own_setOther rO _ _ _ (row_ne rO hb (by decide)), own_setOther rS _ _ _ (row_ne rS hb (by decide)), o⟩
structure Rig (B B0 c : Nat) (a : Option Addr) (len cap : Nat) (w wr : World) (b r : Nat) (sN sE sO sS : Value) (d : D) : Prop where
  box : disk.Box wr b [sN, sE, sO, sS, .int .i64 d.room, .int .i64 d.next]
  fz : ∀ j, wr.frozen? ⟨b, j, none⟩ = false
  tb : ∃ cs, wr.heap[b]? = some (.cells cs 28)
  out : ∃ u0 u1 u2 u3 u4 u5, disk.Box wr r [u0, u1, u2, u3, u4, u5]
  fr : ∀ j, wr.frozen? ⟨r, j, none⟩ = false
  own : OwnDisk B wr (.agg #[sN, sE, sO, sS, .int .i64 d.room, .int .i64 d.next]) d
  cur : Cur wr c a len cap
  code : CodeAt wr B0 a len
  grow : w.grownBy wr (some c)
  hB : w.heap.size ≤ B
  hr : r < B
  hw : w.heap.size ≤ r
  hb : w.heap.size ≤ b
  hs : B ≤ wr.heap.size
  ne : b ≠ r
  hBc : B0 ≤ c
  hc : c < w.heap.size

section
variable {B B0 c len cap b r : Nat} {a : Option Addr} {w wr w1 : World} {sN sE sO sS : Value} {d : D}
theorem Rig.lt (h : Rig B B0 c a len cap w wr b r sN sE sO sS d) : c < wr.heap.size ∧ B0 ≤ wr.heap.size := by
  have := h.hc
  have := h.grow.size
  have := h.hBc
  omega
theorem Rig.draw (h : Rig B B0 c a len cap w wr b r sN sE sO sS d) (g : wr.grownBy w1 (some c)) (u : Cur w1 c a len cap) : Rig B B0 c a len cap w w1 b r sN sE sO sS d := by
  have h1 := h.hc
  have h2 := h.hb
  have h3 := h.hw
  have h4 := h.hBc
  have h5 := h.grow.size
  have h6 := h.hB
  obtain ⟨u0, u1, u2, u3, u4, u5, ho⟩ := h.out
  obtain ⟨cs, tb⟩ := h.tb
  exact ⟨box_keep h.box g (by omega), frozen_keep h.fz h.box.1 g (by omega), ⟨cs, tb_kept tb g h.box.1 (fun e => by have := Option.some.inj e; omega)⟩, ⟨u0, u1, u2, u3, u4, u5, box_keep ho g (by omega)⟩, frozen_keep h.fr ho.1 g (by omega), disk_keep h.own g (by omega), u, h.code.grown h.hBc (by omega) g, grown_trans h.grow g, h.hB, h.hr, h.hw, h.hb, Nat.le_trans h.hs g.size, h.ne, h.hBc, h.hc⟩
theorem Rig.below (h : Rig B B0 c a len cap w wr b r sN sE sO sS d) (g : Below wr.heap.size wr w1) : Rig B B0 c a len cap w w1 b r sN sE sO sS d := by
  have h1 := h.hc
  have h4 := h.hBc
  have h5 := h.grow.size
  obtain ⟨u0, u1, u2, u3, u4, u5, ho⟩ := h.out
  obtain ⟨cs, tb⟩ := h.tb
  exact ⟨h.box.below g, frozen_below h.fz h.box.1 g, ⟨cs, (g.block b h.box.1).trans tb⟩, ⟨u0, u1, u2, u3, u4, u5, ho.below g⟩, frozen_below h.fr ho.1 g, disk_below h.own g, h.cur.below (g.mono (by omega)), h.code.below (g.mono (by omega)), grown_below h.grow (g.mono (by omega)), h.hB, h.hr, h.hw, h.hb, Nat.le_trans h.hs g.size, h.ne, h.hBc, h.hc⟩
/-- what a store at or above w's end leaves -/
theorem Rig.rest (h : Rig B B0 c a len cap w wr b r sN sE sO sS d) (g : Below w.heap.size wr w1) : Cur w1 c a len cap ∧ CodeAt w1 B0 a len ∧ w.grownBy w1 (some c) := by
  have h1 := h.hc
  have h4 := h.hBc
  exact ⟨h.cur.below (g.mono (by omega)), h.code.below (g.mono (by omega)), grown_below h.grow g⟩
theorem Rig.room (h : Rig B B0 c a len cap w wr b r sN sE sO sS d) (x : Int) : Rig B B0 c a len cap w (wr.setCell ⟨b, 4, none⟩ (.int .i64 x)) b r sN sE sO sS { d with room := x } := by
  obtain ⟨u0, u1, u2, u3, u4, u5, ho⟩ := h.out
  obtain ⟨cs, tb⟩ := h.tb
  obtain ⟨k1, k2, k3⟩ := h.rest ((Below.refl w.heap.size wr).setCell (p := ⟨b, 4, none⟩) h.hb (.int .i64 x))
  obtain ⟨_, _, _, _, nN, nE, nO, nS, hv, rest⟩ := disk_off (j := 4) (u := .int .i64 x) h.own tb
  simp only [Value.agg.injEq, Array.mk.injEq, List.cons.injEq] at hv
  obtain ⟨rfl, rfl, rfl, rfl, _⟩ := hv
  exact ⟨box_set h.box (by simp), frozen_set h.fz, ⟨_, heap_setCell_same wr b 4 cs _ _ tb⟩, ⟨u0, u1, u2, u3, u4, u5, box_far ho h.ne⟩, frozen_set h.fr, ⟨_, _, _, _, nN, nE, nO, nS, rfl, rest⟩, k1, k2, k3, h.hB, h.hr, h.hw, h.hb, by simpa using h.hs, h.ne, h.hBc, h.hc⟩
theorem Rig.next (h : Rig B B0 c a len cap w wr b r sN sE sO sS d) (x : Int) : Rig B B0 c a len cap w (wr.setCell ⟨b, 5, none⟩ (.int .i64 x)) b r sN sE sO sS { d with next := x } := by
  obtain ⟨u0, u1, u2, u3, u4, u5, ho⟩ := h.out
  obtain ⟨cs, tb⟩ := h.tb
  obtain ⟨k1, k2, k3⟩ := h.rest ((Below.refl w.heap.size wr).setCell (p := ⟨b, 5, none⟩) h.hb (.int .i64 x))
  obtain ⟨_, _, _, _, nN, nE, nO, nS, hv, rest⟩ := disk_off (j := 5) (u := .int .i64 x) h.own tb
  simp only [Value.agg.injEq, Array.mk.injEq, List.cons.injEq] at hv
  obtain ⟨rfl, rfl, rfl, rfl, _⟩ := hv
  exact ⟨box_set h.box (by simp), frozen_set h.fz, ⟨_, heap_setCell_same wr b 5 cs _ _ tb⟩, ⟨u0, u1, u2, u3, u4, u5, box_far ho h.ne⟩, frozen_set h.fr, ⟨_, _, _, _, nN, nE, nO, nS, rfl, rest⟩, k1, k2, k3, h.hB, h.hr, h.hw, h.hb, by simpa using h.hs, h.ne, h.hBc, h.hc⟩
/-- while a list of its own grows, the box stays -/
theorem Rig.mid {e : TypeId} {s n : Nat} {u : Value} {xs : List Value} (h : Rig B B0 c a len cap w wr b r sN sE sO sS d) (hu : wr.ownsRow B e s u n xs) (hne : e ≠ 28) (hg : wr.grownBy w1 u.ownBlock) :
    disk.Box w1 b [sN, sE, sO, sS, .int .i64 d.room, .int .i64 d.next] ∧ ∀ j, w1.frozen? ⟨b, j, none⟩ = false := by
  obtain ⟨cs, tb⟩ := h.tb
  have fb := row_ne hu tb hne
  exact ⟨box_grown h.box hg fb, frozen_grown h.fz h.box.1 hg fb⟩
theorem Rig.ents {n : Nat} {u : Value} {es : List Ent} (h : Rig B B0 c a len cap w wr b r sN sE sO sS d) (hg : wr.grownBy w1 sE.ownBlock) (hu : w1.ownsRow B 71 2 u n (cellsE es)) (ho : u.ownBlock = sE.ownBlock ∨ w1.ownsRow wr.heap.size 71 2 u n (cellsE es)) :
    Rig B B0 c a len cap w (w1.setCell ⟨b, 1, none⟩ u) b r sN u sO sS { d with ents := es } := by
  obtain ⟨u0, u1, u2, u3, u4, u5, hx⟩ := h.out
  obtain ⟨cs, tb⟩ := h.tb
  obtain ⟨_, _, _, _, nN, nE, nO, nS, hv, rN, rE, rO, rS, o1, o2, o3, o4, o5, o6⟩ := h.own
  simp only [Value.agg.injEq, Array.mk.injEq, List.cons.injEq] at hv
  obtain ⟨rfl, rfl, rfl, rfl, _⟩ := hv
  have rN' := own_grown rN hg o1
  have rO' := own_grown rO hg (off_symm o4)
  have rS' := own_grown rS hg (off_symm o5)
  have fb := row_ne rE tb (by decide)
  have gr := own_not rE h.hr
  have tb1 := tb_kept tb hg h.box.1 (fun e => fb e.symm)
  have b1 : Below B wr w1 := (Below.refl B wr).grown hg h.hs (fun k hk => (own_block_ge rE k hk).1)
  obtain ⟨k1, k2, k3⟩ := h.rest (((b1.mono h.hB)).setCell (p := ⟨b, 1, none⟩) h.hb u)
  have hOE : Off u sO := fun g e1 e2 => by
    rcases ho with ho | ho
    · exact o4 g (ho ▸ e1) e2
    · have k1 := (own_block_ge ho g e1).1
      have k2 := (own_block_ge rO g e2).2
      omega
  exact ⟨box_set (box_grown h.box hg fb) (by simp), frozen_set (frozen_grown h.fz h.box.1 hg fb), ⟨_, heap_setCell_same w1 b 1 cs _ _ tb1⟩, ⟨u0, u1, u2, u3, u4, u5, box_far (box_grown hx hg gr) h.ne⟩, frozen_set (frozen_grown h.fr hx.1 hg gr),
    disk_off ⟨_, _, _, _, nN, n, nO, nS, rfl, rN', hu, rO', rS', off_type rN' hu (by decide), o2, o3, hOE, off_type hu rS' (by decide), o6⟩ tb1, k1, k2, k3, h.hB, h.hr, h.hw, h.hb, by simpa using Nat.le_trans h.hs hg.size, h.ne, h.hBc, h.hc⟩
theorem Rig.steps {n : Nat} {u : Value} {ss : List ByteArray} (h : Rig B B0 c a len cap w wr b r sN sE sO sS d) (hg : wr.grownBy w1 sS.ownBlock) (hu : w1.ownsRow B 9 1 u n (ss.map Value.string)) :
    Rig B B0 c a len cap w (w1.setCell ⟨b, 3, none⟩ u) b r sN sE sO u { d with steps := ss } := by
  obtain ⟨u0, u1, u2, u3, u4, u5, hx⟩ := h.out
  obtain ⟨cs, tb⟩ := h.tb
  obtain ⟨_, _, _, _, nN, nE, nO, nS, hv, rN, rE, rO, rS, o1, o2, o3, o4, o5, o6⟩ := h.own
  simp only [Value.agg.injEq, Array.mk.injEq, List.cons.injEq] at hv
  obtain ⟨rfl, rfl, rfl, rfl, _⟩ := hv
  have rN' := own_grown rN hg o3
  have rE' := own_grown rE hg o5
  have rO' := own_grown rO hg o6
  have fb := row_ne rS tb (by decide)
  have gr := own_not rS h.hr
  have tb1 := tb_kept tb hg h.box.1 (fun e => fb e.symm)
  have b1 : Below B wr w1 := (Below.refl B wr).grown hg h.hs (fun k hk => (own_block_ge rS k hk).1)
  obtain ⟨k1, k2, k3⟩ := h.rest (((b1.mono h.hB)).setCell (p := ⟨b, 3, none⟩) h.hb u)
  exact ⟨box_set (box_grown h.box hg fb) (by simp), frozen_set (frozen_grown h.fz h.box.1 hg fb), ⟨_, heap_setCell_same w1 b 3 cs _ _ tb1⟩, ⟨u0, u1, u2, u3, u4, u5, box_far (box_grown hx hg gr) h.ne⟩, frozen_set (frozen_grown h.fr hx.1 hg gr),
    disk_off ⟨_, _, _, _, nN, nE, nO, n, rfl, rN', rE', rO', hu, o1, o2, off_type rN' hu (by decide), o4, off_type rE' hu (by decide), off_type rO' hu (by decide)⟩ tb1, k1, k2, k3, h.hB, h.hr, h.hw, h.hb, by simpa using Nat.le_trans h.hs hg.size, h.ne, h.hBc, h.hc⟩
theorem Rig.old {n : Nat} {u : Value} {es : List Ent} (h : Rig B B0 c a len cap w wr b r sN sE sO sS d) (hg : wr.grownBy w1 sO.ownBlock) (hu : w1.ownsRow B 71 2 u n (cellsE es)) (ho : u.ownBlock = sO.ownBlock ∨ w1.ownsRow wr.heap.size 71 2 u n (cellsE es)) :
    Rig B B0 c a len cap w (w1.setCell ⟨b, 2, none⟩ u) b r sN sE u sS { d with old := es } := by
  obtain ⟨u0, u1, u2, u3, u4, u5, hx⟩ := h.out
  obtain ⟨cs, tb⟩ := h.tb
  obtain ⟨_, _, _, _, nN, nE, nO, nS, hv, rN, rE, rO, rS, o1, o2, o3, o4, o5, o6⟩ := h.own
  simp only [Value.agg.injEq, Array.mk.injEq, List.cons.injEq] at hv
  obtain ⟨rfl, rfl, rfl, rfl, _⟩ := hv
  have rN' := own_grown rN hg o2
  have rE' := own_grown rE hg o4
  have rS' := own_grown rS hg (off_symm o6)
  have fb := row_ne rO tb (by decide)
  have gr := own_not rO h.hr
  have tb1 := tb_kept tb hg h.box.1 (fun e => fb e.symm)
  have b1 : Below B wr w1 := (Below.refl B wr).grown hg h.hs (fun k hk => (own_block_ge rO k hk).1)
  obtain ⟨k1, k2, k3⟩ := h.rest (((b1.mono h.hB)).setCell (p := ⟨b, 2, none⟩) h.hb u)
  have hOE : Off sE u := fun g e1 e2 => by
    rcases ho with ho | ho
    · exact o4 g e1 (ho ▸ e2)
    · have k1 := (own_block_ge ho g e2).1
      have k2 := (own_block_ge rE g e1).2
      omega
  exact ⟨box_set (box_grown h.box hg fb) (by simp), frozen_set (frozen_grown h.fz h.box.1 hg fb), ⟨_, heap_setCell_same w1 b 2 cs _ _ tb1⟩, ⟨u0, u1, u2, u3, u4, u5, box_far (box_grown hx hg gr) h.ne⟩, frozen_set (frozen_grown h.fr hx.1 hg gr),
    disk_off ⟨_, _, _, _, nN, nE, n, nS, rfl, rN', rE', hu, rS', o1, off_type rN' hu (by decide), o3, hOE, o5, off_type hu rS' (by decide)⟩ tb1, k1, k2, k3, h.hB, h.hr, h.hw, h.hb, by simpa using Nat.le_trans h.hs hg.size, h.ne, h.hBc, h.hc⟩
theorem Rig.node {g cp j : Nat} {u : Value} {ns : List Nod} (h : Rig B B0 c a len cap w wr b r (.slice (some ⟨g, 0, none⟩) d.nodes.length cp) sE sO sS d) (hc : (cellsN d.nodes).set j u = cellsN ns) :
    Rig B B0 c a len cap w (wr.setCell ⟨g, j, none⟩ u) b r (.slice (some ⟨g, 0, none⟩) d.nodes.length cp) sE sO sS { d with nodes := ns } := by
  obtain ⟨u0, u1, u2, u3, u4, u5, hx⟩ := h.out
  obtain ⟨cs, tb⟩ := h.tb
  obtain ⟨_, _, _, _, nN, nE, nO, nS, hv, rN, rE, rO, rS, o1, o2, o3, o4, o5, o6⟩ := h.own
  simp only [Value.agg.injEq, Array.mk.injEq, List.cons.injEq] at hv
  obtain ⟨rfl, rfl, rfl, rfl, _⟩ := hv
  have hn : nN = d.nodes.length := by have := rN.1; rw [cellsN_len] at this; omega
  subst hn
  have hgb : g ≠ b := fun e => row_ne rN tb (by decide) (by rw [e]; rfl)
  have hgr : g ≠ r := fun e => own_not rN h.hr (by rw [e]; rfl)
  have hgB : B ≤ g := (own_block_ge rN g rfl).1
  have hs := (rN.stored j u).1
  rw [hc] at hs
  obtain ⟨k1, k2, k3⟩ := h.rest ((Below.refl w.heap.size wr).setCell (p := ⟨g, j, none⟩) (Nat.le_trans h.hB hgB) u)
  exact ⟨box_far h.box hgb, frozen_set h.fz, ⟨cs, (heap_setCell_other wr ⟨g, j, none⟩ b u (fun e => hgb e.symm)).trans tb⟩, ⟨u0, u1, u2, u3, u4, u5, box_far hx hgr⟩, frozen_set h.fr,
    ⟨_, _, _, _, d.nodes.length, nE, nO, nS, rfl, hs, own_setOther rE _ _ _ (o1 g rfl), own_setOther rO _ _ _ (o2 g rfl), own_setOther rS _ _ _ (o3 g rfl), o1, o2, o3, o4, o5, o6⟩, k1, k2, k3, h.hB, h.hr, h.hw, h.hb, by simpa using h.hs, h.ne, h.hBc, h.hc⟩
theorem Rig.ret (h : Rig B B0 c a len cap w wr b r sN sE sO sS d) :
    ∃ X, ((((((wr.setCell ⟨r, 0, none⟩ sN).setCell ⟨r, 1, none⟩ sE).setCell ⟨r, 2, none⟩ sO).setCell ⟨r, 3, none⟩ sS).setCell ⟨r, 4, none⟩ (.int .i64 d.room)).setCell ⟨r, 5, none⟩ (.int .i64 d.next)) = X ∧
      disk.Box X r [sN, sE, sO, sS, .int .i64 d.room, .int .i64 d.next] ∧ OwnDisk w.heap.size X (.agg #[sN, sE, sO, sS, .int .i64 d.room, .int .i64 d.next]) d ∧ Cur X c a len cap ∧ w.grownBy X (some c) := by
  obtain ⟨u0, u1, u2, u3, u4, u5, ho⟩ := h.out
  have h1 := h.hc
  obtain ⟨X, hX, hb, hd, hl⟩ := six_ret ho h.hr h.own w.heap.size wr (Below.refl _ _) h.hw
  exact ⟨X, hX, hb, hd.base h.hB, h.cur.below (hl.mono (by omega)), grown_below h.grow hl⟩
end

/-- An append to a row of the call's own: it lies where the old one lay, or in a new block. -/
theorem wp_copy2 {P : Program} {o : Oper} {a : Act} {K : Act → World → Prop} {Q : Exit → Act → World → Prop} {w : World} (hgd : o.guard = none) (s x : Operand) (t : TypeId)
    (ho : o.op = .call { callee := .builtin .append, args := #[s, x], argTypes := #[t, t] })
    (B : Nat) (e : TypeId) (i : TypeInfo) (z : Value) (size bytes : Nat) (ht : P.underlying t = some (.slice e)) (hi : P.info? e = some i) (hz : i.zero = some z)
    (hsize : i.size = size) (hby : i.bytes = bytes) (hzs : z.cells.size = size) (hsz : 0 < size)
    (v : Value) (n : Nat) (xs : List Value) (hown : w.ownsRow B e size v n xs) (hB : B ≤ w.heap.size)
    (ad : Addr) (m c : Nat) (news : List Value) (hc : Cells w (some ad) m size news) (hone : ∀ u ∈ news, u.oneCell' = true) (hm : 0 < m) (h63 : n + m ≤ maxLen) (hbytes : (n + m) * bytes ≤ 140737488355328)
    (hs : a.eval s = v) (hx : a.eval x = .slice (some ad) m c)
    (h : ∀ v' w', w'.ownsRow B e size v' (n + m) (xs ++ news) → w.grownBy w' v.ownBlock → (v'.ownBlock = v.ownBlock ∨ w'.ownsRow w.heap.size e size v' (n + m) (xs ++ news)) → K (a.put o.dst v') w') : o.wp P a w K Q := by
  have hw : Region.wanted o (yielded #[] a.tmps) = true := by simp [Region.wanted, hgd]
  have hcell : ∀ j u, news[j]? = some u → w.cell? (ad.add j) = some u := fun j u hj => by
    rcases hc.2 with h0 | ⟨bb, off, hb, _, hcell⟩
    · omega
    · obtain rfl : ad = ⟨bb, off, none⟩ := by simpa using hb
      rw [Go.WideShapes.add_plain]
      exact hcell j u hj
  rcases hown.2 with ⟨rfl, rfl⟩ | ⟨g, cap, cur, rfl, hB', hh, hnc, hcm, hcs, htake⟩
  · have hx0 : xs = [] := List.length_eq_zero_iff.1 (by have := hown.1; omega)
    subst hx0
    have := step_append_grows (P := P) (ops := #[]) (o := o) (a := a) (w := w) (K := K) (Q := Q) (E := False) hgd s x t ho e i z size bytes ht hi hz hsize hby hzs hsz none 0 0 [] hs (fun _ => ⟨rfl, rfl⟩) (by simp) (fun b hb => by cases hb) ad m c news hx hc.1 hcell hone (by omega) h63 hbytes
      (fun v' w' h1 h2 => h v' w' (own_base h1 hB) h2 (.inr h1))
    rwa [if_pos hw] at this
  · by_cases hroom : n + m ≤ cap
    · exact wp_append_own_spare w s x t ho B e i size ht hi hsize g n cap xs hs hown ad m c news hx hc.1 hcell hone hroom (fun w' h2 h3 => h _ w' h2 h3 (.inl rfl))
    · have := step_append_grows (P := P) (ops := #[]) (o := o) (a := a) (w := w) (K := K) (Q := Q) (E := False) hgd s x t ho e i z size bytes ht hi hz hsize hby hzs hsz (some ⟨g, 0, none⟩) n cap xs hs (fun hb => by cases hb) hown.1
        (fun b hb j u hj => by
          obtain rfl : (⟨g, 0, none⟩ : Addr) = b := by simpa using hb
          rw [Go.WideShapes.add_plain, Nat.zero_add, hown.cellAt j (by have := (List.getElem?_eq_some_iff.1 hj).1; have := hown.1; omega)]
          exact hj)
        ad m c news hx hc.1 hcell hone (by omega) h63 hbytes
        (fun v' w' h1 h2 => h v' w' (own_base h1 hB) ⟨h2.os, h2.tape, h2.output, h2.size, fun k hk _ => h2.block k hk (by simp)⟩ (.inr h1))
      rwa [if_pos hw] at this
theorem step_copy2 {P : Program} {ops : Array Oper} {o : Oper} {a : Act} {K : Act → World → Prop} {Q : Exit → Act → World → Prop} {E : Prop} {w : World} (hgd : o.guard = none) (s x : Operand) (t : TypeId)
    (ho : o.op = .call { callee := .builtin .append, args := #[s, x], argTypes := #[t, t] })
    (B : Nat) (e : TypeId) (i : TypeInfo) (z : Value) (size bytes : Nat) (ht : P.underlying t = some (.slice e)) (hi : P.info? e = some i) (hz : i.zero = some z)
    (hsize : i.size = size) (hby : i.bytes = bytes) (hzs : z.cells.size = size) (hsz : 0 < size)
    (v : Value) (n : Nat) (xs : List Value) (hown : w.ownsRow B e size v n xs) (hB : B ≤ w.heap.size)
    (ad : Addr) (m c : Nat) (news : List Value) (hc : Cells w (some ad) m size news) (hone : ∀ u ∈ news, u.oneCell' = true) (hm : 0 < m) (h63 : n + m ≤ maxLen) (hbytes : (n + m) * bytes ≤ 140737488355328)
    (hs : a.eval s = v) (hx : a.eval x = .slice (some ad) m c)
    (h : ∀ v' w', w'.ownsRow B e size v' (n + m) (xs ++ news) → w.grownBy w' v.ownBlock → (v'.ownBlock = v.ownBlock ∨ w'.ownsRow w.heap.size e size v' (n + m) (xs ++ news)) → K (a.put o.dst v') w') :
    if Region.wanted o (yielded ops a.tmps) = true then Oper.wp P o a w K Q else E := by
  have hwd : Region.wanted o (yielded ops a.tmps) = true := by simp [Region.wanted, hgd]
  rw [if_pos hwd]
  exact wp_copy2 hgd s x t ho B e i z size bytes ht hi hz hsize hby hzs hsz v n xs hown hB ad m c news hc hone hm h63 hbytes hs hx h
theorem list_copy2 {P : Program} {ops : Array Oper} {rest : List Oper} {o : Oper} {a : Act} {Q : Exit → Act → World → Prop} {w : World} (hgd : o.guard = none) (s x : Operand) (t : TypeId)
    (ho : o.op = .call { callee := .builtin .append, args := #[s, x], argTypes := #[t, t] })
    (B : Nat) (e : TypeId) (i : TypeInfo) (z : Value) (size bytes : Nat) (ht : P.underlying t = some (.slice e)) (hi : P.info? e = some i) (hz : i.zero = some z)
    (hsize : i.size = size) (hby : i.bytes = bytes) (hzs : z.cells.size = size) (hsz : 0 < size)
    (v : Value) (n : Nat) (xs : List Value) (hown : w.ownsRow B e size v n xs) (hB : B ≤ w.heap.size)
    (ad : Addr) (m c : Nat) (news : List Value) (hc : Cells w (some ad) m size news) (hone : ∀ u ∈ news, u.oneCell' = true) (hm : 0 < m) (h63 : n + m ≤ maxLen) (hbytes : (n + m) * bytes ≤ 140737488355328)
    (hs : a.eval s = v) (hx : a.eval x = .slice (some ad) m c)
    (h : ∀ v' w', w'.ownsRow B e size v' (n + m) (xs ++ news) → w.grownBy w' v.ownBlock → (v'.ownBlock = v.ownBlock ∨ w'.ownsRow w.heap.size e size v' (n + m) (xs ++ news)) → wpList P ops Q rest (a.put o.dst v') w') :
    wpList P ops Q (o :: rest) a w :=
  wpList_plain hgd fun _ hK => wp_copy2 hgd s x t ho B e i z size bytes ht hi hz hsize hby hzs hsz v n xs hown hB ad m c news hc hone hm h63 hbytes hs hx fun v' w' h1 h2 h3 => hK _ _ (h v' w' h1 h2 h3)
theorem cells_new2 (w : World) (v0 v1 : Value) (t : TypeId) : Cells (w.alloc (.cells #[v0, v1] t)) (some ⟨w.heap.size, 0, none⟩) 1 2 [v0, v1] := by
  refine ⟨rfl, .inr ⟨w.heap.size, 0, rfl, by simp, fun j x hx => ?_⟩⟩
  rw [cell_of_row _ _ _ _ _ _ (heap_alloc_new w _)]
  simpa using hx

end Go.Proofs.YtiehfobcbhgfkaaGreatDoor.deed
