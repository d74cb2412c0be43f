/-
  Names in order: plain facts, and the contract of spec.SortedNames.
-/
import Derived.Test.YtepecjofngoejaaDoorNameB
import Derived.Test.YtepecjofngoejaaDoorStrsB
import Derived.Test.YtepecjofngoejaaDoorBig
import Derived.Deep.RegionHeld3
namespace Go.Proofs.YtepecjofngoejaaDoor.nam
open Go.RowKit
open kit
open num

def blt (x y : ByteArray) : Bool := Op.bytesLess x.toList y.toList
def place (x : ByteArray) (l : List ByteArray) : Nat := (l.takeWhile fun y => blt y x).length
def put (l : List ByteArray) (x : ByteArray) : List ByteArray := l.take (place x l) ++ x :: l.drop (place x l)
def addN (l : List ByteArray) (x : ByteArray) : List ByteArray := if nok x = true ∧ ¬ l[place x l]? = some x then put l x else l
def srt (xs : List ByteArray) : List ByteArray := xs.foldl addN []
theorem srt_snoc (xs : List ByteArray) (i : Nat) (x : ByteArray) (h : xs[i]? = some x) : srt (xs.take (i + 1)) = addN (srt (xs.take i)) x := by
  unfold srt
  rw [List.take_add_one, h, List.foldl_append]
  rfl
theorem place_is (x : ByteArray) (l : List ByteArray) (k : Nat) (hk : k ≤ l.length) (h1 : ∀ j y, j < k → l[j]? = some y → blt y x = true) (h2 : k = l.length ∨ ∃ y, l[k]? = some y ∧ blt y x = false) : place x l = k := by
  unfold place
  induction l generalizing k with
  | nil => simp at hk; subst hk; rfl
  | cons y r ih =>
    cases k with
    | zero =>
      rcases h2 with h2 | ⟨z, hz, hb⟩
      · simp at h2
      · simp only [List.getElem?_cons_zero, Option.some.injEq] at hz
        subst hz
        rw [List.takeWhile_cons, if_neg (by simp [hb])]
        rfl
    | succ k =>
      have hy := h1 0 y (by omega) rfl
      rw [List.takeWhile_cons, if_pos hy, List.length_cons, ih k (by simpa using hk) (fun j z hj hz => h1 (j + 1) z (by omega) (by simpa using hz)) (by
        rcases h2 with h2 | ⟨z, hz, hb⟩
        · left; simpa using h2
        · right; exact ⟨z, by simpa using hz, hb⟩)]
theorem place_le (x : ByteArray) (l : List ByteArray) : place x l ≤ l.length := by
  unfold place
  exact (List.takeWhile_sublist _).length_le
theorem put_length (l : List ByteArray) (x : ByteArray) : (put l x).length = l.length + 1 := by
  have := place_le x l
  unfold put
  simp
  omega
theorem addN_length (l : List ByteArray) (x : ByteArray) : (addN l x).length ≤ l.length + 1 := by
  unfold addN
  split
  · rw [put_length]; exact Nat.le_refl _
  · omega
theorem srt_length (xs : List ByteArray) : (srt xs).length ≤ xs.length := by
  have : ∀ (xs l : List ByteArray), (xs.foldl addN l).length ≤ l.length + xs.length := by
    intro xs
    induction xs with
    | nil => intro l; exact Nat.le_refl _
    | cons x r ih =>
      intro l
      rw [List.foldl_cons, List.length_cons]
      have h1 := ih (addN l x)
      have h2 := addN_length l x
      omega
  have := this xs []
  simpa [srt] using this

/-- An append of a readable row to an owned one, as one operation of a region that draws its order. -/
theorem step_own {P : Program} {ops : Array Oper} {o : Oper} {a : Act} {K : Act → World → Prop} {Q : Exit → Act → World → Prop} {E : Prop} {w : World} (hgd : o.guard = none) (s x : Operand) (t : TypeId)
    (ho : o.op = .call { callee := .builtin .append, args := #[s, x], argTypes := #[t, t] })
    (B : Nat) (e : TypeId) (i : TypeInfo) (z : Value) (bytes : Nat) (ht : P.underlying t = some (.slice e)) (hi : P.info? e = some i) (hz : i.zero = some z)
    (hsize : i.size = 1) (hby : i.bytes = bytes) (hzs : z.cells.size = 1)
    (v : Value) (n : Nat) (xs : List Value) (hown : w.ownsRow B e 1 v n xs) (hs : a.eval s = v)
    (ad : Addr) (m c : Nat) (news : List Value) (hx : a.eval x = .slice (some ad) m c) (hl : news.length = m) (hnews : ∀ j u, news[j]? = some u → w.cell? (ad.add j) = some u) (hone : ∀ u ∈ news, u.oneCell' = true)
    (h63 : n + m ≤ maxLen) (hbytes : (n + m) * bytes ≤ 140737488355328) (hbase : B ≤ w.heap.size)
    (h : ∀ v' w', w'.ownsRow B e 1 v' (n + m) (xs ++ news) → w.grownBy w' v.ownBlock → (v' = .slice none 0 0 ↔ v = .slice none 0 0 ∧ m = 0) → K (a.put o.dst v') w') :
    if Region.wanted o (yielded ops a.tmps) = true then Oper.wp P o a w K Q else E := by
  have hwd : Region.wanted o (yielded ops a.tmps) = true := by simp [Region.wanted, hgd]
  rw [if_pos hwd]
  exact wp_append_own w s x t ho B e i z 1 bytes ht hi hz hsize hby hzs (by decide) v n xs hs hown ad m c news hx (by omega) hnews hone h63 hbytes hbase h
theorem list_own {P : Program} {ops : Array Oper} {rest : List Oper} {o : Oper} {a : Act} {Q : Exit → Act → World → Prop} {w : World} (hgd : o.guard = none) (s x : Operand) (t : TypeId)
    (ho : o.op = .call { callee := .builtin .append, args := #[s, x], argTypes := #[t, t] })
    (B : Nat) (e : TypeId) (i : TypeInfo) (z : Value) (bytes : Nat) (ht : P.underlying t = some (.slice e)) (hi : P.info? e = some i) (hz : i.zero = some z)
    (hsize : i.size = 1) (hby : i.bytes = bytes) (hzs : z.cells.size = 1)
    (v : Value) (n : Nat) (xs : List Value) (hown : w.ownsRow B e 1 v n xs) (hs : a.eval s = v)
    (ad : Addr) (m c : Nat) (news : List Value) (hx : a.eval x = .slice (some ad) m c) (hl : news.length = m) (hnews : ∀ j u, news[j]? = some u → w.cell? (ad.add j) = some u) (hone : ∀ u ∈ news, u.oneCell' = true)
    (h63 : n + m ≤ maxLen) (hbytes : (n + m) * bytes ≤ 140737488355328) (hbase : B ≤ w.heap.size)
    (h : ∀ v' w', w'.ownsRow B e 1 v' (n + m) (xs ++ news) → w.grownBy w' v.ownBlock → (v' = .slice none 0 0 ↔ v = .slice none 0 0 ∧ m = 0) → wpList P ops Q rest (a.put o.dst v') w') :
    wpList P ops Q (o :: rest) a w :=
  wpList_plain hgd fun _ hK => wp_append_own w s x t ho B e i z 1 bytes ht hi hz hsize hby hzs (by decide) v n xs hs hown ad m c news hx (by omega) hnews hone h63 hbytes hbase fun v' w' h1 h2 h3 => hK _ _ (h v' w' h1 h2 h3)

theorem own_cap {w : World} {B g n cap : Nat} {e : TypeId} {xs : List Value} (h : w.ownsRow B e 1 (.slice (some ⟨g, 0, none⟩) n cap) n xs) : n ≤ cap ∧ cap ≤ maxLen ∧ B ≤ g ∧ g < w.heap.size := by
  rcases h.2 with ⟨h1, _⟩ | ⟨g', cap', cur, h1, hB, hg, hn, hcm, _⟩
  · cases h1
  · injection h1 with h2 h3 h4
    injection h2 with h2
    injection h2 with h2
    subst h2
    subst h4
    exact ⟨hn, hcm, hB, (Array.getElem?_eq_some_iff.1 hg).1⟩
theorem cells_front {B g m cp : Nat} {e : TypeId} {W W' : World} {l : List ByteArray} (h : W.ownsRow B e 1 (.slice (some ⟨g, 0, none⟩) m cp) m (l.map Value.string)) (hd : Below W.heap.size W W') (hg : g < W.heap.size) (hl : l.length = m) (q : Nat) (hq : q ≤ m) :
    ∀ (j : Nat) (u : Value), ((l.take q).map Value.string)[j]? = some u → W'.cell? ((⟨g, 0, none⟩ : Addr).add j) = some u := by
  intro j u hu
  have hj : j < q := by have := (List.getElem?_eq_some_iff.1 hu).1; simp at this; omega
  rw [add_none, hd.cell (p := ⟨g, j, none⟩) hg, h.cellAt j (by omega), ← hu, List.map_take, List.getElem?_take_of_lt hj]
theorem cells_back {B g m cp : Nat} {e : TypeId} {W W' : World} {l : List ByteArray} (h : W.ownsRow B e 1 (.slice (some ⟨g, 0, none⟩) m cp) m (l.map Value.string)) (hd : Below W.heap.size W W') (hg : g < W.heap.size) (hl : l.length = m) (q : Nat) (hq : q ≤ m) :
    ∀ (j : Nat) (u : Value), ((l.drop q).map Value.string)[j]? = some u → W'.cell? ((⟨g, q, none⟩ : Addr).add j) = some u := by
  intro j u hu
  have hj : q + j < m := by have := (List.getElem?_eq_some_iff.1 hu).1; simp at this; omega
  rw [show (⟨g, q, none⟩ : Addr).add j = ⟨g, q + j, none⟩ from Go.WideShapes.add_plain .., hd.cell (p := ⟨g, q + j, none⟩) hg, h.cellAt (q + j) (by omega), ← hu, List.map_drop, List.getElem?_drop]
theorem one_str (x : ByteArray) : ∀ u ∈ [Value.string x], u.oneCell' = true := by intro u hu; simp at hu; subst hu; rfl
theorem all_str (l : List ByteArray) : ∀ u ∈ l.map Value.string, u.oneCell' = true := by
  intro u hu
  obtain ⟨s, _, rfl⟩ := List.mem_map.1 hu
  rfl
theorem one_at {W : World} {b : Nat} {x : ByteArray} (h : W.cell? ⟨b, 0, none⟩ = some (.string x)) : ∀ (j : Nat) (u : Value), [Value.string x][j]? = some u → W.cell? ((⟨b, 0, none⟩ : Addr).add j) = some u := by
  intro j u hu
  cases j with
  | zero =>
    simp only [List.getElem?_cons_zero, Option.some.injEq] at hu
    subst hu
    exact h
  | succ j => simp at hu
theorem new_cell (W : World) (x : ByteArray) (e : TypeId) : (W.alloc (.cells #[.string x] e)).cell? ⟨W.heap.size, 0, none⟩ = some (.string x) := by
  rw [cell_of_row _ W.heap.size 0 _ e (0, 0) (heap_alloc_new W _)]
  rfl
/-- the worlds of an insertion: nothing laid first, or the name -/
theorem m1 (W : World) (e : TypeId) : (W.drew.alloc (.cells #[] e)).ownsRow W.heap.size e 1 (.slice (some ⟨W.heap.size, 0, none⟩) 0 0) 0 [] := World.ownsRow_made W.drew _ _ (Nat.le_refl _) (by decide) rfl
theorem m2 (W : World) (x : ByteArray) (e : TypeId) : ((W.drew.alloc (.cells #[] e)).alloc (.cells #[.string x] e)).ownsRow W.heap.size e 1 (.slice (some ⟨W.heap.size, 0, none⟩) 0 0) 0 [] := (m1 W e).alloc _
theorem m3 (W : World) (x : ByteArray) (e : TypeId) : ((W.drew.alloc (.cells #[.string x] e)).alloc (.cells #[] e)).ownsRow W.heap.size e 1 (.slice (some ⟨W.heap.size + 1, 0, none⟩) 0 0) 0 [] := by
  have h := World.ownsRow_made (base := W.heap.size) (e := e) (size := 1) (W.drew.alloc (.cells #[.string x] e)) #[] 0 (by simp) (by decide) rfl
  simpa using h
theorem b1 (W : World) (o : Obj) : Below W.heap.size W (W.drew.alloc o) := (Below.refl _ _).drew.alloc (Nat.le_refl _) _
theorem b2 (W : World) (o p : Obj) : Below W.heap.size W ((W.drew.alloc o).alloc p) := (b1 W o).alloc (by simp) _
theorem c2 (W : World) (x : ByteArray) (e : TypeId) : ((W.drew.alloc (.cells #[] e)).alloc (.cells #[.string x] e)).cell? ⟨W.heap.size + 1, 0, none⟩ = some (.string x) := by
  have h := new_cell (W.drew.alloc (.cells #[] e)) x e
  simpa using h
theorem c3 (W : World) (x : ByteArray) (e : TypeId) : ((W.drew.alloc (.cells #[.string x] e)).alloc (.cells #[] e)).cell? ⟨W.heap.size, 0, none⟩ = some (.string x) := by
  have h := new_cell W.drew x e
  rw [Below.cell (B := W.heap.size + 1) (w := W.drew.alloc (.cells #[.string x] e)) ((Below.refl _ _).alloc (by simp) _) (by simp)]
  exact h
theorem ne2 (n : Nat) : (Value.slice (some ⟨n, 0, none⟩) 0 0).ownBlock ≠ some (n + 1) := by
  show some n ≠ some (n + 1)
  intro e
  injection e with e
  omega
theorem ne3 (n : Nat) : (Value.slice (some ⟨n + 1, 0, none⟩) 0 0).ownBlock ≠ some n := by
  show some (n + 1) ≠ some n
  intro e
  injection e with e
  omega
theorem kept_cell {w w' : World} {row : Option Nat} {b : Nat} {v : Value} (hg : w.grownBy w' row) (hb : b < w.heap.size) (hne : row ≠ some b) (h : w.cell? ⟨b, 0, none⟩ = some v) : w'.cell? ⟨b, 0, none⟩ = some v :=
  (World.cell?_of_block (w := w) (w' := w') (a := ⟨b, 0, none⟩) (hg.block b hb (fun e => hne e.symm))).trans h
theorem okRet (b : ByteArray) (w : World) (hm : b.size ≤ 9223372036854775807) :
    Calls Tryd.prog 19 #[.string b] w fun e w' => e = .returned (.bool (nok b)) ∧ w' = w :=
  (specOk_any b w hm).mono fun _ _ h => ⟨h.1, h.2.symm⟩
theorem okRet2 (b : ByteArray) (o : Bool) (w : World) (hm : b.size ≤ 9223372036854775807) (h : nok b = o) :
    Calls Tryd.prog 19 #[.string b] w fun e w' => e = .returned (.bool o) ∧ w' = w := h ▸ okRet b w hm

set_option maxHeartbeats 2000000 in
set_option maxRecDepth 20000 in
theorem specSorted_any (a : Option Addr) (c n : Nat) (xs : List ByteArray) (w : World) (hm : n ≤ 1048576) (ha : strs.At w a n xs) (hs : ∀ s ∈ xs, s.size ≤ 9223372036854775807) :
    Calls Tryd.prog 24 #[.slice a n c] w fun e w' => ∃ v, e = .returned v ∧ w'.ownsRow w.heap.size 9 1 v (srt xs).length ((srt xs).map Value.string) ∧ Below w.heap.size w w' := by
  obtain ⟨ti, hi, hz0, hz1, hz2⟩ := info_parts strs.Tryd.infoStr
  have HL := Lib.hid ha.1
  have HA := Lib.hid ha
  have HS := Lib.hid hs
  clear ha hs
  go_enter Tryd.func24, Tryd.ntmps24
  go_wp2
  go_loopw [3, 4] (fun o i wr => ∃ (k m g cp : Nat) (l : List ByteArray), k ≤ n ∧ i = .int .i64 k ∧ o = .slice (some ⟨g, 0, none⟩) m cp ∧ srt (xs.take k) = l ∧ l.length = m ∧ m ≤ k ∧ wr.ownsRow w.heap.size 9 1 (.slice (some ⟨g, 0, none⟩) m cp) m (l.map Value.string) ∧ Below w.heap.size w wr) (fun _ i _ => n - (intOf i).toNat)
  case atStart => exact ⟨0, 0, w.heap.size, 0, [], Nat.zero_le _, rfl, rfl, rfl, rfl, Nat.le_refl _, World.ownsRow_made _ _ _ (Nat.le_refl _) (by decide) rfl, (Below.refl _ _).alloc (Nat.le_refl _) _⟩
  case round =>
    obtain ⟨k, m, g, cp, l, hk, rfl, rfl, hsr, hlm, hmk, hown, hb⟩ := hrel
    obtain ⟨w0, hw0⟩ : ∃ w0, wr = w0 := ⟨_, rfl⟩
    rw [hw0] at hown hb ⊢
    clear hw0
    have HSR := Lib.hid hsr
    have HLM := Lib.hid hlm
    have HO := Lib.hid hown
    clear hsr hlm hown
    by_cases hlt : k < n
    · obtain ⟨x, hxk⟩ : ∃ x, xs[k]? = some x := ⟨_, List.getElem?_eq_getElem (by rw [HL.out]; exact hlt)⟩
      obtain ⟨gl, ol, rfl, hgl, hx⟩ := HA.out.2.resolve_left (by omega)
      have cx : w0.cell? ⟨gl, ol + k, none⟩ = some (.string x) := (hb.cell (p := ⟨gl, ol + k, none⟩) hgl).trans (hx k x hxk)
      have hxs := HS.out x (List.mem_of_getElem? hxk)
      have HX := Lib.hid hxk
      have i0 : (0 : Int) ≤ (k : Int) := by omega
      have i1 : (k : Int) < (n : Int) := by omega
      clear hx hxk
      go_wp2
      go_loopw [5] (fun j wq => ∃ q : Nat, q ≤ m ∧ j = .int .i64 q ∧ (∀ j y, j < q → l[j]? = some y → blt y x = true) ∧ Below w0.heap.size w0 wq) (fun j _ => m - (intOf j).toNat)
      case atStart => exact ⟨0, Nat.zero_le _, rfl, (fun j y hj => by omega), Below.refl _ _⟩
      case round =>
        obtain ⟨q, hq, rfl, hall, hbq⟩ := hrel
        have HALL := Lib.hid hall
        have hlm := HLM.out
        clear hall
        have cxq : wr.cell? ⟨gl, ol + k, none⟩ = some (.string x) := (hbq.cell (p := ⟨gl, ol + k, none⟩) (Nat.lt_of_lt_of_le hgl hb.size)).trans cx
        have ownq := own_below HO.out hbq
        by_cases hqm : q < m
        · obtain ⟨y, hy⟩ : ∃ y, l[q]? = some y := ⟨_, List.getElem?_eq_getElem (by omega)⟩
          have cy : wr.cell? ⟨g, q, none⟩ = some (.string y) := by rw [ownq.cellAt q (by omega), List.getElem?_map, hy]; rfl
          have HY := Lib.hid hy
          have j0 : (0 : Int) ≤ (q : Int) := by omega
          have j1 : (q : Int) < (m : Int) := by omega
          clear hy ownq hlm
          by_cases hlt2 : blt y x = true
          · have hbl : Op.bytesLess y.toList x.toList = true := hlt2
            have HB := Lib.hid hlt2
            clear hlt2
            go_wp2
            go_quiet (fail)
            go_wp2
            go_roundw
            case rel =>
              refine ⟨q + 1, by omega, by go_num, fun j z hj hz => ?_, below_drewN hbq _⟩
              by_cases hjq : j < q
              · exact HALL.out j z hjq hz
              · obtain rfl : j = q := by omega
                have := HY.out
                rw [this] at hz
                injection hz with hz
                rw [← hz]
                exact HB.out
            case measure => simp [intOf]; omega
          · have hbl : Op.bytesLess y.toList x.toList = false := by simpa [blt] using hlt2
            have HP := Lib.hid (place_is x l q (by have := HLM.out; omega) HALL.out (.inr ⟨y, HY.out, by simpa using hlt2⟩))
            clear hlt2
            go_wp2
            go_quiet (fail)
            have cx1 : (wr.drewN nq).cell? ⟨gl, ol + k, none⟩ = some (.string x) := cxq
            have cy1 : (wr.drewN nq).cell? ⟨g, q, none⟩ = some (.string y) := cy
            have hb1 := below_drewN hbq nq
            generalize wr.drewN nq = w1 at cx1 cy1 hb1 ⊢
            clear cxq cy hbq
            go_wp2
            by_cases hok : nok x = true
            · by_cases hyx : y = x
              · have hyb := str_yes hyx
                have HE := Lib.hid (show addN l x = l from if_neg (fun e => e.2 (by rw [HP.out, HY.out, hyx])))
                have HK := Lib.hid (fun w => okRet2 x true w hxs hok)
                clear hyx hok
                go_quiet ((go_at_call 19; exact Calls.quiet_of_same (HK.out _)))
                have hb2 := below_drewN hb1 nq
                go_wp2
                go_roundw
                case rel => exact ⟨k + 1, m, g, cp, l, by omega, by go_num, rfl, by rw [srt_snoc _ _ _ HX.out, HSR.out]; exact HE.out, HLM.out, by omega, own_below HO.out hb2, chain hb hb2⟩
                case measure => simp [intOf]; omega
              · have hyb := str_ne hyx
                have HE := Lib.hid (show addN l x = put l x from if_pos ⟨hok, by rw [HP.out, HY.out]; intro e; injection e with e; exact hyx e⟩)
                have HK := Lib.hid (fun w => okRet2 x true w hxs hok)
                clear hyx hok
                go_quiet ((go_at_call 19; exact Calls.quiet_of_same (HK.out _)))
                have dW := below_drewN hb1 nq
                generalize w1.drewN nq = W at dW ⊢
                have ownW := own_below HO.out dW
                have cxW : W.cell? ⟨gl, ol + k, none⟩ = some (.string x) := (dW.cell (p := ⟨gl, ol + k, none⟩) (Nat.lt_of_lt_of_le hgl hb.size)).trans cx
                have hgW : gl < W.heap.size := Nat.lt_of_lt_of_le hgl (Nat.le_trans hb.size dW.size)
                obtain ⟨hc1, hc2, hc3, hc4⟩ := own_cap ownW
                have HC := Lib.hid (fun W' (hd : Below W.heap.size W W') => cells_front ownW hd hc4 HLM.out q hq)
                have HC2 := Lib.hid (fun W' (hd : Below W.heap.size W W') => cells_back ownW hd hc4 HLM.out q hq)
                have HF := Lib.hid (show put l x = l.take q ++ x :: l.drop q by unfold put; rw [HP.out])
                have hwW : w.heap.size ≤ W.heap.size := Nat.le_trans hb.size dW.size
                have hqc : (q : Int) ≤ cp := by omega
                unfold maxLen at hc2
                clear hb1 ownW cx1 cy1
                go_wp2
                go_region_held3 (fun w' => w'.cell? ⟨gl, ol + k, none⟩ = some (.string x)) (first | exact cxW | exact S1 | exact S2 | go_keep) (first | (refine step_own (by rfl) (.tmp 54) (.tmp 57) 31 (by rfl) W.heap.size 9 ti (.string { data := #[] }) 16 Tryd.underlying31 hi hz0 hz1 hz2 (by rfl) _ 0 [] (m1 W 9) (by rfl) ⟨g, 0, none⟩ q _ ((l.take q).map Value.string) (by rfl) ?_ (HC.out _ (b1 W _)) (all_str _) ?_ ?_ ?_ ?_; (have := HLM.out; simp; omega); (unfold maxLen; omega); omega; exact (b1 W _).size; intro v1 w1 hown1 hg1 hn1; have d1 : Below W.heap.size W w1 := ((b1 W _)).grown hg1 (b1 W _).size (fun k' hk' => ((m1 W 9).lt k' hk').1); have S1 : w1.cell? ⟨gl, ol + k, none⟩ = some (.string x) := (d1.cell (p := ⟨gl, ol + k, none⟩) hgW).trans cxW) | (refine step_own (by rfl) (.tmp 54) (.tmp 57) 31 (by rfl) W.heap.size 9 ti (.string { data := #[] }) 16 Tryd.underlying31 hi hz0 hz1 hz2 (by rfl) _ 0 [] (m2 W x 9) (by rfl) ⟨g, 0, none⟩ q _ ((l.take q).map Value.string) (by rfl) ?_ (HC.out _ (b2 W _ _)) (all_str _) ?_ ?_ ?_ ?_; (have := HLM.out; simp; omega); (unfold maxLen; omega); omega; exact (b2 W _ _).size; intro v1 w1 hown1 hg1 hn1; have d1 : Below W.heap.size W w1 := ((b2 W _ _)).grown hg1 (b2 W _ _).size (fun k' hk' => ((m2 W x 9).lt k' hk').1); have S1 : w1.cell? ⟨gl, ol + k, none⟩ = some (.string x) := (d1.cell (p := ⟨gl, ol + k, none⟩) hgW).trans cxW; have X1 : w1.cell? ⟨W.heap.size + 1, 0, none⟩ = some (.string x) := kept_cell hg1 (by simp) (ne2 W.heap.size) (c2 W x 9)) | (refine step_own (by rfl) (.tmp 54) (.tmp 57) 31 (by rfl) W.heap.size 9 ti (.string { data := #[] }) 16 Tryd.underlying31 hi hz0 hz1 hz2 (by rfl) _ 0 [] (m3 W x 9) (by rfl) ⟨g, 0, none⟩ q _ ((l.take q).map Value.string) (by rfl) ?_ (HC.out _ (b2 W _ _)) (all_str _) ?_ ?_ ?_ ?_; (have := HLM.out; simp; omega); (unfold maxLen; omega); omega; exact (b2 W _ _).size; intro v1 w1 hown1 hg1 hn1; have d1 : Below W.heap.size W w1 := ((b2 W _ _)).grown hg1 (b2 W _ _).size (fun k' hk' => ((m3 W x 9).lt k' hk').1); have S1 : w1.cell? ⟨gl, ol + k, none⟩ = some (.string x) := (d1.cell (p := ⟨gl, ol + k, none⟩) hgW).trans cxW; have X1 : w1.cell? ⟨W.heap.size, 0, none⟩ = some (.string x) := kept_cell hg1 (by simp; omega) (ne3 W.heap.size) (c3 W x 9)) | (refine step_own (by rfl) (.tmp 58) (.tmp 63) 31 (by rfl) W.heap.size 9 ti (.string { data := #[] }) 16 Tryd.underlying31 hi hz0 hz1 hz2 (by rfl) _ _ _ (hown1.alloc _) (by rfl) ⟨w1.heap.size, 0, none⟩ 1 _ [.string x] (by rfl) (by rfl) (one_at (new_cell w1 x _)) (one_str x) ?_ ?_ ?_ ?_; (unfold maxLen; omega); omega; (have := d1.size; simp; omega); intro v2 w2 hown2 hg2 hn2; have d2 : Below W.heap.size W w2 := ((d1.alloc d1.size _)).grown hg2 (by have := d1.size; simp; omega) (fun k' hk' => (hown1.lt k' hk').1); have S2 : w2.cell? ⟨gl, ol + k, none⟩ = some (.string x) := (d2.cell (p := ⟨gl, ol + k, none⟩) hgW).trans cxW) | (refine step_own (by rfl) (.tmp 58) (.tmp 63) 31 (by rfl) W.heap.size 9 ti (.string { data := #[] }) 16 Tryd.underlying31 hi hz0 hz1 hz2 (by rfl) _ _ _ hown1 (by rfl) ⟨W.heap.size + 1, 0, none⟩ 1 _ [.string x] (by rfl) (by rfl) (one_at X1) (one_str x) ?_ ?_ ?_ ?_; (unfold maxLen; omega); omega; exact d1.size; intro v2 w2 hown2 hg2 hn2; have d2 : Below W.heap.size W w2 := (d1).grown hg2 d1.size (fun k' hk' => (hown1.lt k' hk').1); have S2 : w2.cell? ⟨gl, ol + k, none⟩ = some (.string x) := (d2.cell (p := ⟨gl, ol + k, none⟩) hgW).trans cxW) | (refine step_own (by rfl) (.tmp 58) (.tmp 63) 31 (by rfl) W.heap.size 9 ti (.string { data := #[] }) 16 Tryd.underlying31 hi hz0 hz1 hz2 (by rfl) _ _ _ hown1 (by rfl) ⟨W.heap.size, 0, none⟩ 1 _ [.string x] (by rfl) (by rfl) (one_at X1) (one_str x) ?_ ?_ ?_ ?_; (unfold maxLen; omega); omega; exact d1.size; intro v2 w2 hown2 hg2 hn2; have d2 : Below W.heap.size W w2 := (d1).grown hg2 d1.size (fun k' hk' => (hown1.lt k' hk').1); have S2 : w2.cell? ⟨gl, ol + k, none⟩ = some (.string x) := (d2.cell (p := ⟨gl, ol + k, none⟩) hgW).trans cxW))
                all_goals
                  have C2 := HC2.out _ d2
                  have hqm2 : q ≤ m := hq
                  have hle2 := d2.size
                  clear hn1 hn2 hg1 hg2 S1 S2 d1 hown1
                  by_cases hcq : cp = q
                  · have C0 : ∀ (j : Nat) (u : Value), ((l.drop q).map Value.string)[j]? = some u → w2.cell? ((⟨g, 0, none⟩ : Addr).add j) = some u := by
                      intro j u hu
                      have := (List.getElem?_eq_some_iff.1 hu).1
                      have := HLM.out
                      simp at *
                      omega
                    clear C2
                    go_wp2_with (at_builtin; refine list_own (by rfl) (.tmp 65) (.tmp 68) 31 (by rfl) W.heap.size 9 ti (.string { data := #[] }) 16 Tryd.underlying31 hi hz0 hz1 hz2 (by rfl) _ _ _ hown2 (by rfl) ⟨g, 0, none⟩ (m - q) _ ((l.drop q).map Value.string) (by rfl) ?_ C0 (all_str _) ?_ ?_ ?_ ?_; (have := HLM.out; simp; omega); (unfold maxLen; omega); omega; omega; intro v3 w3 hown3 hg3 hn3)
                    have d3 : Below W.heap.size W w3 := d2.grown hg3 hle2 (fun k' hk' => (hown2.lt k' hk').1)
                    have e3 : 0 + q + 1 + (m - q) = m + 1 := by omega
                    rw [e3] at hown3
                    have hfin : w3.ownsRow w.heap.size 9 1 v3 (m + 1) ((put l x).map Value.string) := by
                      rw [HF.out]
                      simpa using own_base hown3 hwW
                    have d4 : Below w.heap.size w w3 := chain (chain hb dW) d3
                    clear hown3 hown2 hg3 hn3 d3 d2 e3
                    obtain ⟨a3, cp3, rfl, _, _, hf3⟩ := own_form hfin
                    obtain ⟨g3, rfl, _⟩ := hf3.resolve_left (by omega)
                    go_roundw
                    case rel => exact ⟨k + 1, m + 1, g3, cp3, put l x, by omega, by go_num, rfl, by rw [srt_snoc _ _ _ HX.out, HSR.out]; exact HE.out, by rw [put_length, HLM.out], by omega, hfin, d4⟩
                    case measure => simp [intOf]; omega
                  · clear hc1
                    go_wp2_with (at_builtin; refine list_own (by rfl) (.tmp 65) (.tmp 68) 31 (by rfl) W.heap.size 9 ti (.string { data := #[] }) 16 Tryd.underlying31 hi hz0 hz1 hz2 (by rfl) _ _ _ hown2 (by rfl) ⟨g, q, none⟩ (m - q) _ ((l.drop q).map Value.string) (by rfl) ?_ C2 (all_str _) ?_ ?_ ?_ ?_; (have := HLM.out; simp; omega); (unfold maxLen; omega); omega; omega; intro v3 w3 hown3 hg3 hn3)
                    have d3 : Below W.heap.size W w3 := d2.grown hg3 hle2 (fun k' hk' => (hown2.lt k' hk').1)
                    have e3 : 0 + q + 1 + (m - q) = m + 1 := by omega
                    rw [e3] at hown3
                    have hfin : w3.ownsRow w.heap.size 9 1 v3 (m + 1) ((put l x).map Value.string) := by
                      rw [HF.out]
                      simpa using own_base hown3 hwW
                    have d4 : Below w.heap.size w w3 := chain (chain hb dW) d3
                    clear hown3 hown2 hg3 hn3 d3 d2 e3
                    obtain ⟨a3, cp3, rfl, _, _, hf3⟩ := own_form hfin
                    obtain ⟨g3, rfl, _⟩ := hf3.resolve_left (by omega)
                    go_roundw
                    case rel => exact ⟨k + 1, m + 1, g3, cp3, put l x, by omega, by go_num, rfl, by rw [srt_snoc _ _ _ HX.out, HSR.out]; exact HE.out, by rw [put_length, HLM.out], by omega, hfin, d4⟩
                    case measure => simp [intOf]; omega
            · have hok : nok x = false := by simpa using hok
              have HE := Lib.hid (show addN l x = l from if_neg (fun e => by rw [hok] at e; cases e.1))
              have HK := Lib.hid (fun w => okRet2 x false w hxs hok)
              clear hok cy1
              go_quiet ((go_at_call 19; exact Calls.quiet_of_same (HK.out _)))
              have hb2 := below_drewN hb1 nq
              go_wp2
              go_roundw
              case rel => exact ⟨k + 1, m, g, cp, l, by omega, by go_num, rfl, by rw [srt_snoc _ _ _ HX.out, HSR.out]; exact HE.out, HLM.out, by omega, own_below HO.out hb2, chain hb hb2⟩
              case measure => simp [intOf]; omega
        · obtain rfl : q = m := by omega
          have HP := Lib.hid (place_is x l q (by omega) HALL.out (.inl hlm.symm))
          have hnone := Lib.hid (show l[q]? = none from List.getElem?_eq_none (by omega))
          clear ownq hlm
          go_wp2
          go_quiet (fail)
          have cx1 : (wr.drewN nq).cell? ⟨gl, ol + k, none⟩ = some (.string x) := cxq
          have hb1 := below_drewN hbq nq
          generalize wr.drewN nq = w1 at cx1 hb1 ⊢
          clear cxq hbq
          go_wp2
          by_cases hok : nok x = true
          · have HE := Lib.hid (show addN l x = put l x from if_pos ⟨hok, by rw [HP.out, hnone.out]; simp⟩)
            have HK := Lib.hid (fun w => okRet2 x true w hxs hok)
            clear hok
            go_quiet ((go_at_call 19; exact Calls.quiet_of_same (HK.out _)))
            have dW := below_drewN hb1 nq
            generalize w1.drewN nq = W at dW ⊢
            have ownW := own_below HO.out dW
            have cxW : W.cell? ⟨gl, ol + k, none⟩ = some (.string x) := (dW.cell (p := ⟨gl, ol + k, none⟩) (Nat.lt_of_lt_of_le hgl hb.size)).trans cx
            have hgW : gl < W.heap.size := Nat.lt_of_lt_of_le hgl (Nat.le_trans hb.size dW.size)
            obtain ⟨hc1, hc2, hc3, hc4⟩ := own_cap ownW
            have HC := Lib.hid (fun W' (hd : Below W.heap.size W W') => cells_front ownW hd hc4 HLM.out q hq)
            have HC2 := Lib.hid (fun W' (hd : Below W.heap.size W W') => cells_back ownW hd hc4 HLM.out q hq)
            have HF := Lib.hid (show put l x = l.take q ++ x :: l.drop q by unfold put; rw [HP.out])
            have hwW : w.heap.size ≤ W.heap.size := Nat.le_trans hb.size dW.size
            have hqc : (q : Int) ≤ cp := by omega
            unfold maxLen at hc2
            clear hb1 ownW cx1
            go_wp2
            go_region_held3 (fun w' => w'.cell? ⟨gl, ol + k, none⟩ = some (.string x)) (first | exact cxW | exact S1 | exact S2 | go_keep) (first | (refine step_own (by rfl) (.tmp 54) (.tmp 57) 31 (by rfl) W.heap.size 9 ti (.string { data := #[] }) 16 Tryd.underlying31 hi hz0 hz1 hz2 (by rfl) _ 0 [] (m1 W 9) (by rfl) ⟨g, 0, none⟩ q _ ((l.take q).map Value.string) (by rfl) ?_ (HC.out _ (b1 W _)) (all_str _) ?_ ?_ ?_ ?_; (have := HLM.out; simp; omega); (unfold maxLen; omega); omega; exact (b1 W _).size; intro v1 w1 hown1 hg1 hn1; have d1 : Below W.heap.size W w1 := ((b1 W _)).grown hg1 (b1 W _).size (fun k' hk' => ((m1 W 9).lt k' hk').1); have S1 : w1.cell? ⟨gl, ol + k, none⟩ = some (.string x) := (d1.cell (p := ⟨gl, ol + k, none⟩) hgW).trans cxW) | (refine step_own (by rfl) (.tmp 54) (.tmp 57) 31 (by rfl) W.heap.size 9 ti (.string { data := #[] }) 16 Tryd.underlying31 hi hz0 hz1 hz2 (by rfl) _ 0 [] (m2 W x 9) (by rfl) ⟨g, 0, none⟩ q _ ((l.take q).map Value.string) (by rfl) ?_ (HC.out _ (b2 W _ _)) (all_str _) ?_ ?_ ?_ ?_; (have := HLM.out; simp; omega); (unfold maxLen; omega); omega; exact (b2 W _ _).size; intro v1 w1 hown1 hg1 hn1; have d1 : Below W.heap.size W w1 := ((b2 W _ _)).grown hg1 (b2 W _ _).size (fun k' hk' => ((m2 W x 9).lt k' hk').1); have S1 : w1.cell? ⟨gl, ol + k, none⟩ = some (.string x) := (d1.cell (p := ⟨gl, ol + k, none⟩) hgW).trans cxW; have X1 : w1.cell? ⟨W.heap.size + 1, 0, none⟩ = some (.string x) := kept_cell hg1 (by simp) (ne2 W.heap.size) (c2 W x 9)) | (refine step_own (by rfl) (.tmp 54) (.tmp 57) 31 (by rfl) W.heap.size 9 ti (.string { data := #[] }) 16 Tryd.underlying31 hi hz0 hz1 hz2 (by rfl) _ 0 [] (m3 W x 9) (by rfl) ⟨g, 0, none⟩ q _ ((l.take q).map Value.string) (by rfl) ?_ (HC.out _ (b2 W _ _)) (all_str _) ?_ ?_ ?_ ?_; (have := HLM.out; simp; omega); (unfold maxLen; omega); omega; exact (b2 W _ _).size; intro v1 w1 hown1 hg1 hn1; have d1 : Below W.heap.size W w1 := ((b2 W _ _)).grown hg1 (b2 W _ _).size (fun k' hk' => ((m3 W x 9).lt k' hk').1); have S1 : w1.cell? ⟨gl, ol + k, none⟩ = some (.string x) := (d1.cell (p := ⟨gl, ol + k, none⟩) hgW).trans cxW; have X1 : w1.cell? ⟨W.heap.size, 0, none⟩ = some (.string x) := kept_cell hg1 (by simp; omega) (ne3 W.heap.size) (c3 W x 9)) | (refine step_own (by rfl) (.tmp 58) (.tmp 63) 31 (by rfl) W.heap.size 9 ti (.string { data := #[] }) 16 Tryd.underlying31 hi hz0 hz1 hz2 (by rfl) _ _ _ (hown1.alloc _) (by rfl) ⟨w1.heap.size, 0, none⟩ 1 _ [.string x] (by rfl) (by rfl) (one_at (new_cell w1 x _)) (one_str x) ?_ ?_ ?_ ?_; (unfold maxLen; omega); omega; (have := d1.size; simp; omega); intro v2 w2 hown2 hg2 hn2; have d2 : Below W.heap.size W w2 := ((d1.alloc d1.size _)).grown hg2 (by have := d1.size; simp; omega) (fun k' hk' => (hown1.lt k' hk').1); have S2 : w2.cell? ⟨gl, ol + k, none⟩ = some (.string x) := (d2.cell (p := ⟨gl, ol + k, none⟩) hgW).trans cxW) | (refine step_own (by rfl) (.tmp 58) (.tmp 63) 31 (by rfl) W.heap.size 9 ti (.string { data := #[] }) 16 Tryd.underlying31 hi hz0 hz1 hz2 (by rfl) _ _ _ hown1 (by rfl) ⟨W.heap.size + 1, 0, none⟩ 1 _ [.string x] (by rfl) (by rfl) (one_at X1) (one_str x) ?_ ?_ ?_ ?_; (unfold maxLen; omega); omega; exact d1.size; intro v2 w2 hown2 hg2 hn2; have d2 : Below W.heap.size W w2 := (d1).grown hg2 d1.size (fun k' hk' => (hown1.lt k' hk').1); have S2 : w2.cell? ⟨gl, ol + k, none⟩ = some (.string x) := (d2.cell (p := ⟨gl, ol + k, none⟩) hgW).trans cxW) | (refine step_own (by rfl) (.tmp 58) (.tmp 63) 31 (by rfl) W.heap.size 9 ti (.string { data := #[] }) 16 Tryd.underlying31 hi hz0 hz1 hz2 (by rfl) _ _ _ hown1 (by rfl) ⟨W.heap.size, 0, none⟩ 1 _ [.string x] (by rfl) (by rfl) (one_at X1) (one_str x) ?_ ?_ ?_ ?_; (unfold maxLen; omega); omega; exact d1.size; intro v2 w2 hown2 hg2 hn2; have d2 : Below W.heap.size W w2 := (d1).grown hg2 d1.size (fun k' hk' => (hown1.lt k' hk').1); have S2 : w2.cell? ⟨gl, ol + k, none⟩ = some (.string x) := (d2.cell (p := ⟨gl, ol + k, none⟩) hgW).trans cxW))
            all_goals
              have C2 := HC2.out _ d2
              have hqm2 : q ≤ q := hq
              have hle2 := d2.size
              clear hn1 hn2 hg1 hg2 S1 S2 d1 hown1
              by_cases hcq : cp = q
              · have C0 : ∀ (j : Nat) (u : Value), ((l.drop q).map Value.string)[j]? = some u → w2.cell? ((⟨g, 0, none⟩ : Addr).add j) = some u := by
                  intro j u hu
                  have := (List.getElem?_eq_some_iff.1 hu).1
                  have := HLM.out
                  simp at *
                  omega
                clear C2
                go_wp2_with (at_builtin; refine list_own (by rfl) (.tmp 65) (.tmp 68) 31 (by rfl) W.heap.size 9 ti (.string { data := #[] }) 16 Tryd.underlying31 hi hz0 hz1 hz2 (by rfl) _ _ _ hown2 (by rfl) ⟨g, 0, none⟩ (0) _ ((l.drop q).map Value.string) (by rfl) ?_ C0 (all_str _) ?_ ?_ ?_ ?_; (have := HLM.out; simp; omega); (unfold maxLen; omega); omega; omega; intro v3 w3 hown3 hg3 hn3)
                have d3 : Below W.heap.size W w3 := d2.grown hg3 hle2 (fun k' hk' => (hown2.lt k' hk').1)
                have e3 : 0 + q + 1 + (0) = q + 1 := by omega
                rw [e3] at hown3
                have hfin : w3.ownsRow w.heap.size 9 1 v3 (q + 1) ((put l x).map Value.string) := by
                  rw [HF.out]
                  simpa using own_base hown3 hwW
                have d4 : Below w.heap.size w w3 := chain (chain hb dW) d3
                clear hown3 hown2 hg3 hn3 d3 d2 e3
                obtain ⟨a3, cp3, rfl, _, _, hf3⟩ := own_form hfin
                obtain ⟨g3, rfl, _⟩ := hf3.resolve_left (by omega)
                go_roundw
                case rel => exact ⟨k + 1, q + 1, g3, cp3, put l x, by omega, by go_num, rfl, by rw [srt_snoc _ _ _ HX.out, HSR.out]; exact HE.out, by rw [put_length, HLM.out], by omega, hfin, d4⟩
                case measure => simp [intOf]; omega
              · clear hc1
                go_wp2_with (at_builtin; refine list_own (by rfl) (.tmp 65) (.tmp 68) 31 (by rfl) W.heap.size 9 ti (.string { data := #[] }) 16 Tryd.underlying31 hi hz0 hz1 hz2 (by rfl) _ _ _ hown2 (by rfl) ⟨g, q, none⟩ (0) _ ((l.drop q).map Value.string) (by rfl) ?_ C2 (all_str _) ?_ ?_ ?_ ?_; (have := HLM.out; simp; omega); (unfold maxLen; omega); omega; omega; intro v3 w3 hown3 hg3 hn3)
                have d3 : Below W.heap.size W w3 := d2.grown hg3 hle2 (fun k' hk' => (hown2.lt k' hk').1)
                have e3 : 0 + q + 1 + (0) = q + 1 := by omega
                rw [e3] at hown3
                have hfin : w3.ownsRow w.heap.size 9 1 v3 (q + 1) ((put l x).map Value.string) := by
                  rw [HF.out]
                  simpa using own_base hown3 hwW
                have d4 : Below w.heap.size w w3 := chain (chain hb dW) d3
                clear hown3 hown2 hg3 hn3 d3 d2 e3
                obtain ⟨a3, cp3, rfl, _, _, hf3⟩ := own_form hfin
                obtain ⟨g3, rfl, _⟩ := hf3.resolve_left (by omega)
                go_roundw
                case rel => exact ⟨k + 1, q + 1, g3, cp3, put l x, by omega, by go_num, rfl, by rw [srt_snoc _ _ _ HX.out, HSR.out]; exact HE.out, by rw [put_length, HLM.out], by omega, hfin, d4⟩
                case measure => simp [intOf]; omega
          · have hok : nok x = false := by simpa using hok
            have HE := Lib.hid (show addN l x = l from if_neg (fun e => by rw [hok] at e; cases e.1))
            have HK := Lib.hid (fun w => okRet2 x false w hxs hok)
            clear hok
            go_quiet ((go_at_call 19; exact Calls.quiet_of_same (HK.out _)))
            have hb2 := below_drewN hb1 nq
            go_wp2
            go_roundw
            case rel => exact ⟨k + 1, q, g, cp, l, by omega, by go_num, rfl, by rw [srt_snoc _ _ _ HX.out, HSR.out]; exact HE.out, HLM.out, by omega, own_below HO.out hb2, chain hb hb2⟩
            case measure => simp [intOf]; omega
    · obtain rfl : k = n := by omega
      have htake : xs.take k = xs := List.take_of_length_le (by rw [HL.out]; exact Nat.le_refl _)
      have HE := Lib.hid (show srt xs = l by rw [← htake]; exact HSR.out)
      clear htake
      go_wp2
      go_ret
      exact ⟨_, rfl, by rw [HE.out, HLM.out]; exact HO.out, hb⟩

end Go.Proofs.YtepecjofngoejaaDoor.nam
