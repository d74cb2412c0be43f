/-
  The walk of laws.FnDisks.
-/
import Derived.Test.YtnhcianahmfdhaaGreatDoorDqY
import Derived.Test.YtnhcianahmfdhaaGreatDoorIkX
import Derived.Test.YtnhcianahmfdhaaGreatDoorBig
namespace Go.Proofs.YtnhcianahmfdhaaGreatDoor.deed
open Go.RowKit
open kit strs recs disk kd draw num

theorem new_ok : diskOk ⟨[], [], [], [], 50, 1⟩ = true := by decide +kernel
theorem node_id {d : D} {s : ByteArray} {nd : Nod} (h : nodeAt d s = some nd) : idE d.ents s = nd.1 := by
  unfold nodeAt at h
  unfold idE
  cases he : entAt d.ents s with
  | none => rw [he] at h; cases h
  | some i =>
    rw [he] at h
    cases hk : nodeIx d.nodes i with
    | none => simp only [hk] at h; cases h
    | some k =>
      simp only [hk] at h
      obtain ⟨n, hx, hn⟩ := nodeIx_lt _ _ _ hk
      rw [hx] at h
      cases h
      exact hn.symm
theorem is_atE {w : World} {sN sO sS x y : Value} {a : Option Addr} {n c : Nat} {d : D} (h : IsDisk w (.agg #[sN, .slice a n c, sO, sS, x, y]) d) : AtE w a n d.ents := by
  obtain ⟨aN, aE, aO, aS, nN, cN, nE, cE, nO, cO, nS, cS, hv, h1, h2, h3, h4⟩ := h
  simp only [Value.agg.injEq, Array.mk.injEq, List.cons.injEq, Value.slice.injEq] at hv
  obtain ⟨rfl, ⟨rfl, rfl, rfl⟩, _⟩ := hv
  exact h2
theorem strs_len {w : World} {B n : Nat} {v : Value} {xs : List ByteArray} (h : w.ownsRow B 9 1 v n (xs.map Value.string)) : n = xs.length := by
  have := h.1
  rw [List.length_map, Nat.mul_one] at this
  exact this.symm

set_option maxRecDepth 20000 in
theorem disks_big (a : Option Addr) (len cap : Nat) (w : World) (h1 : 1048576 < len) :
    Calls Tryz.prog 3 #[.slice a len cap] w fun e w' => e = .returned (.bool true) ∧ Below w.heap.size w w' := by
  go_enter Tryz.func3, Tryz.ntmps3
  go_wp2_with fail
  refine (big_yes a len cap w h1).mono ?_
  rintro e w' ⟨rfl, rfl⟩
  go_wp2
  go_ret
  exact ⟨rfl, Below.refl _ _⟩

set_option linter.unusedSimpArgs false in
set_option maxHeartbeats 16000000 in
set_option maxRecDepth 100000 in
theorem disks_small (a : Option Addr) (len cap : Nat) (w : World) (hc : CodeAt w w.heap.size a len) (hg : ik.GD w) :
    Calls Tryz.prog 3 #[.slice a len cap] w fun e w' => e = .returned (.bool true) ∧ Below w.heap.size w w' := by
  have HC := Lib.hid hc
  have HG := Lib.hid hg
  have hlen := hc.1
  clear hc hg
  go_enter Tryz.func3, Tryz.ntmps3
  go_wp2_with (fail)
  refine (big_no a len cap w hlen).mono ?_
  rintro e w' ⟨rfl, rfl⟩
  clear hlen
  go_wp2_with (fail)
  refine (drawDisk_any a len cap w HC.out).mono ?_
  rintro e w1 ⟨u, d, rfl, hd, sm, b1⟩
  obtain ⟨aN, aE, aO, aS, cN, cE, cO, cS, rfl⟩ := own_slices hd
  obtain ⟨V, hV⟩ : ∃ V, V = w1.alloc (.cells #[.slice aN d.nodes.length cN, .slice aE d.ents.length cE, .slice aO d.old.length cO, .slice aS d.steps.length cS, .int .i64 d.room, .int .i64 d.next] 28) := ⟨_, rfl⟩
  have bV : Below w1.heap.size w1 V := by rw [hV]; exact (Below.refl _ _).alloc (Nat.le_refl _) _
  have bxV := show disk.Box V w1.heap.size [.slice aN d.nodes.length cN, .slice aE d.ents.length cE, .slice aO d.old.length cO, .slice aS d.steps.length cS, .int .i64 d.room, .int .i64 d.next] from by rw [hV]; exact Box.new w1 #[.slice aN d.nodes.length cN, .slice aE d.ents.length cE, .slice aO d.old.length cO, .slice aS d.steps.length cS, .int .i64 d.room, .int .i64 d.next] _
  have bwV := b1.trans (bV.mono b1.size)
  have OK := Lib.hid (sm.ok (by decide))
  have LN : d.ents.length ≤ 6800 := Nat.le_trans (bulkE_len _) sm.e
  have HLN := Lib.hid LN
  have ID := Lib.hid (hd.is.below bV)
  have BX := Lib.hid bxV
  have HB := Lib.hid bwV
  have y0 := Later.cell (bxV.at 0 _ rfl) bxV.1
  have y1 := Later.cell (bxV.at 1 _ rfl) bxV.1
  have y2 := Later.cell (bxV.at 2 _ rfl) bxV.1
  have y3 := Later.cell (bxV.at 3 _ rfl) bxV.1
  have y4 := Later.cell (bxV.at 4 _ rfl) bxV.1
  have y5 := Later.cell (bxV.at 5 _ rfl) bxV.1
  obtain ⟨R, hR⟩ : ∃ R, R = diskOk d := ⟨_, rfl⟩
  have CI := Lib.hid (fun (x : Later V) => ik.implDiskOk _ d x.val OK.out (ID.out.below x.2) ((HG.out.below HB.out).below x.2))
  have CJ := Lib.hid (fun (x : Later V) => specDiskOk _ d x.val (okD.loose OK.out) (ID.out.below x.2))
  rw [← hR] at CI CJ
  clear hd sm b1 bV bxV bwV hR LN
  go_wp2
  rw [← hV]
  clear hV
  refine wp_region_later (by kernel_rfl) (by kernel_rfl) ?_
  repeat (first | go_big_quiet_skip | (go_big_quiet_want; go_big_quiet_op; first | go_big_quiet_on | (apply Exists.intro; refine ⟨fun x => ?_, ?_⟩; (first | (go_at_call 7; exact Calls.later (CI.out x)) | (go_at_call 8; exact Calls.later (CJ.out x))); go_big_quiet_on)))
  refine wpQuiet_nil ?_
  rintro w2 ⟨x2, hx2⟩
  have hb2 : Below V.heap.size V w2 := hx2 ▸ x2.2
  clear hx2 x2 CI CJ y0 y1 y2 y3 y4 y5
  have HB2 := Lib.hid (HB.out.trans (hb2.mono HB.out.size))
  have BX2 := Lib.hid (BX.out.below hb2)
  have ID2 := Lib.hid (ID.out.below hb2)
  clear hb2 BX ID HB
  go_wp2_with (fail)
  refine (drawRead_any a len cap w2 ((HC.out.below HB2.out).raise HB2.out.size)).mono ?_
  rintro e w3 ⟨u, d2, s, rfl, hs, hd, sm, b3⟩
  obtain ⟨gN, gE, gO, gS, kN, kE, kO, kS, rfl⟩ := own_slices hd
  clear hd sm
  have b4 := (Below.refl w3.heap.size w3).alloc (Nat.le_refl _) (.cells #[.slice gN d2.nodes.length kN, .slice gE d2.ents.length kE, .slice gO d2.old.length kO, .slice gS d2.steps.length kS, .int .i64 d2.room, .int .i64 d2.next] 28)
  have hb4 := b3.trans (b4.mono b3.size)
  have BX4 := Lib.hid (BX2.out.below hb4)
  have ID4 := Lib.hid (ID2.out.below hb4)
  have HB4 := Lib.hid (HB2.out.trans (hb4.mono HB2.out.size))
  clear BX2 ID2 HB2 b3 b4 hb4
  go_wp2_with (fail)
  refine (disk.implDiskNew 50 _).mono ?_
  rw [if_neg (show ¬ (50 : Int) < 0 by decide)]
  rintro e w5 ⟨rfl, b5⟩
  obtain ⟨V, hV⟩ : ∃ V, V = w5.alloc (.cells #[.slice none 0 0, .slice none 0 0, .slice none 0 0, .slice none 0 0, .int .i64 50, .int .i64 1] 28) := ⟨_, rfl⟩
  have bV : Below w5.heap.size w5 V := by rw [hV]; exact (Below.refl _ _).alloc (Nat.le_refl _) _
  have hb6 := b5.trans (bV.mono b5.size)
  have BX5 := Lib.hid (BX4.out.below b5)
  have BX6 := Lib.hid (BX4.out.below hb6)
  have ID6 := Lib.hid (ID4.out.below hb6)
  have HB6 := Lib.hid (HB4.out.trans (hb6.mono HB4.out.size))
  have NX6 := Lib.hid (show disk.Box V w5.heap.size [.slice none 0 0, .slice none 0 0, .slice none 0 0, .slice none 0 0, .int .i64 50, .int .i64 1] from by rw [hV]; exact Box.new w5 #[.slice none 0 0, .slice none 0 0, .slice none 0 0, .slice none 0 0, .int .i64 50, .int .i64 1] _)
  have NI6 := Lib.hid (show IsDisk V (.agg #[.slice none 0 0, .slice none 0 0, .slice none 0 0, .slice none 0 0, .int .i64 50, .int .i64 1]) ⟨[], [], [], [], 50, 1⟩ from (own_newD 0 V 50).is)
  have x0 := BX5.out.at 0 _ rfl
  have x1 := BX5.out.at 1 _ rfl
  have x2 := BX5.out.at 2 _ rfl
  have x3 := BX5.out.at 3 _ rfl
  have x4 := BX5.out.at 4 _ rfl
  have x5 := BX5.out.at 5 _ rfl
  have zl5 := BX5.out.1
  clear b5 bV hb6 BX4 ID4 HB4
  obtain ⟨o, ho⟩ : ∃ o, o = nodeAt d s := ⟨_, rfl⟩
  obtain ⟨tx, htx⟩ : ∃ tx, tx = textR o := ⟨_, rfl⟩
  obtain ⟨is, his⟩ : ∃ is, is = o.isSome := ⟨_, rfl⟩
  obtain ⟨i, j, hn⟩ := nodeV_text o
  have C8 := Lib.hid (disk.implReadFile _ d s V OK.out.1 ID6.out)
  have C9 := Lib.hid (fun (w' : World) (h : Below V.heap.size V w') => specReadFile _ d s w' OK.out.1 (ID6.out.below h))
  have C10 := Lib.hid (fun (w' : World) (h : Below V.heap.size V w') => disk.implNodeAt _ d s w' OK.out.1 (ID6.out.below h))
  have IDE := Lib.hid (show o.isSome = true → idE d.ents s = i from fun h => by
    cases o with
    | none => cases h
    | some nd =>
      simp only [nodeV, Value.agg.injEq, Array.mk.injEq, List.cons.injEq, Value.int.injEq] at hn
      rw [node_id ho.symm]
      exact hn.1.2)
  rw [← ho, ← htx, ← his] at C8 C9
  rw [← ho, show nodeR o = .tuple #[nodeV o, .bool o.isSome] from rfl, hn, ← htx, ← his] at C10
  rw [← his] at IDE
  clear ho htx his hn
  go_wp2_with (fail)
  rw [← hV]
  clear hV
  refine C8.out.mono ?_
  rintro e w7 ⟨rfl, b7⟩
  clear x0 x1 x2 x3 x4 x5 zl5 BX5 C8
  have BX7 := Lib.hid (BX6.out.below b7)
  have ID7 := Lib.hid (ID6.out.below b7)
  have HB7 := Lib.hid (HB6.out.trans (b7.mono HB6.out.size))
  have VB7 := Lib.hid b7
  have NX7 := Lib.hid (NX6.out.below b7)
  have NI7 := Lib.hid (NI6.out.below b7)
  have x0 := BX7.out.at 0 _ rfl
  have x1 := BX7.out.at 1 _ rfl
  have x2 := BX7.out.at 2 _ rfl
  have x3 := BX7.out.at 3 _ rfl
  have x4 := BX7.out.at 4 _ rfl
  have x5 := BX7.out.at 5 _ rfl
  clear BX6 ID6 HB6 NX6 NI6 b7
  go_wp2_with (fail)
  refine (C9.out w7 VB7.out).mono ?_
  rintro e w8 ⟨rfl, b8⟩
  clear x0 x1 x2 x3 x4 x5 C9
  have BX8 := Lib.hid (BX7.out.below b8)
  have ID8 := Lib.hid (ID7.out.below b8)
  have HB8 := Lib.hid (HB7.out.trans (b8.mono HB7.out.size))
  have VB8 := Lib.hid (VB7.out.trans (b8.mono VB7.out.size))
  have NX8 := Lib.hid (NX7.out.below b8)
  have NI8 := Lib.hid (NI7.out.below b8)
  have x0 := BX8.out.at 0 _ rfl
  have x1 := BX8.out.at 1 _ rfl
  have x2 := BX8.out.at 2 _ rfl
  have x3 := BX8.out.at 3 _ rfl
  have x4 := BX8.out.at 4 _ rfl
  have x5 := BX8.out.at 5 _ rfl
  clear BX7 ID7 HB7 NX7 NI7 b8
  go_wp2_with (fail)
  refine (disk.implFileNames _ d w8 (by have := HLN.out; omega) ID8.out).mono ?_
  rintro e w9 ⟨v, rfl, ⟨m, own9⟩, b9⟩
  obtain rfl := strs_len own9
  obtain ⟨a9, c9, rfl, _, _⟩ := own_shape own9
  clear x0 x1 x2 x3 x4 x5
  have BX9 := Lib.hid (BX8.out.below b9)
  have ID9 := Lib.hid (ID8.out.below b9)
  have HB9 := Lib.hid (HB8.out.trans (b9.mono HB8.out.size))
  have VB9 := Lib.hid (VB8.out.trans (b9.mono VB8.out.size))
  have NX9 := Lib.hid (NX8.out.below b9)
  have NI9 := Lib.hid (NI8.out.below b9)
  have ST9 := Lib.hid (strs.At.of_own own9)
  have x0 := BX9.out.at 0 _ rfl
  have x1 := BX9.out.at 1 _ rfl
  have x2 := BX9.out.at 2 _ rfl
  have x3 := BX9.out.at 3 _ rfl
  have x4 := BX9.out.at 4 _ rfl
  have x5 := BX9.out.at 5 _ rfl
  clear BX8 ID8 HB8 NX8 NI8 b9 own9
  go_wp2_with (fail)
  refine (C10.out w9 VB9.out).mono ?_
  rintro e w10 ⟨rfl, b10⟩
  clear x0 x1 x2 x3 x4 x5 C10
  obtain ⟨W, hW⟩ : ∃ W, W = w10.alloc (.cells #[.int .i64 i, .string tx, .int .i64 j] 38) := ⟨_, rfl⟩
  have bW : Below w10.heap.size w10 W := by rw [hW]; exact (Below.refl _ _).alloc (Nat.le_refl _) _
  have hb11 := b10.trans (bW.mono b10.size)
  have MX := Lib.hid (show disk.Box W w10.heap.size [.int .i64 i, .string tx, .int .i64 j] from by rw [hW]; exact Box.new w10 #[.int .i64 i, .string tx, .int .i64 j] _)
  have BX := Lib.hid (BX9.out.below hb11)
  have ID := Lib.hid (ID9.out.below hb11)
  have HB := Lib.hid (HB9.out.trans (hb11.mono HB9.out.size))
  have NX := Lib.hid (NX9.out.below hb11)
  have NI := Lib.hid (NI9.out.below hb11)
  have ST := Lib.hid (ST9.out.below hb11)
  clear BX9 ID9 HB9 NX9 NI9 ST9 b10 bW hb11
  go_wp2
  rw [← hW]
  clear hW
  have BC := (Below.refl W.heap.size W).drew
  have LNN := Lib.hid (show (names d.ents).length ≤ 1048576 by unfold names; rw [List.length_map]; have := HLN.out; omega)
  have CF := Lib.hid (fun (w' : World) (h : Below W.heap.size W w') => specFileNames _ d w' (by have := HLN.out; omega) (ID.out.below h))
  have EA := Lib.hid (is_atE ID.out)
  have CU := Lib.hid (fun (w' : World) (h : Below W.heap.size W w') => disk.implUsedOn _ d w' (by have := used_le OK.out.2; omega) OK.out.1 (ID.out.below h))
  have CV := Lib.hid (fun (w' : World) (h : Below W.heap.size W w') => specUsedOn _ d w' (by have := used_le OK.out.2; omega) OK.out.1 (ID.out.below h))
  have CK := Lib.hid (fun (w' : World) (h : Below W.heap.size W w') => specDiskOk _ _ w' (okD.loose ((sm_new 50 (by unfold wfI; omega)).ok (by decide))) (NI.out.below h))
  rw [new_ok] at CK
  have hbe := bytes_eq (rfl : tx = tx)
  cases is with
  | true =>
    have CE := Lib.hid (fun (w' : World) (h : Below W.heap.size W w') => disk.implEntryAt aE cE d.ents.length d.ents s w' (by have := HLN.out; unfold maxLen; omega) (EA.out.below h))
    rw [IDE.out rfl] at CE
    go_region_held3 (fun w' => w'.cell? ⟨w1.heap.size, 0, none⟩ = some (.slice aN d.nodes.length cN) ∧ w'.cell? ⟨w1.heap.size, 1, none⟩ = some (.slice aE d.ents.length cE) ∧ w'.cell? ⟨w1.heap.size, 2, none⟩ = some (.slice aO d.old.length cO) ∧ w'.cell? ⟨w1.heap.size, 3, none⟩ = some (.slice aS d.steps.length cS) ∧ w'.cell? ⟨w1.heap.size, 4, none⟩ = some (.int .i64 d.room) ∧ w'.cell? ⟨w1.heap.size, 5, none⟩ = some (.int .i64 d.next) ∧ w'.cell? ⟨w5.heap.size, 0, none⟩ = some (.slice none 0 0) ∧ w'.cell? ⟨w5.heap.size, 1, none⟩ = some (.slice none 0 0) ∧ w'.cell? ⟨w5.heap.size, 2, none⟩ = some (.slice none 0 0) ∧ w'.cell? ⟨w5.heap.size, 3, none⟩ = some (.slice none 0 0) ∧ w'.cell? ⟨w5.heap.size, 4, none⟩ = some (.int .i64 50) ∧ w'.cell? ⟨w5.heap.size, 5, none⟩ = some (.int .i64 1) ∧ w'.cell? ⟨w10.heap.size, 0, none⟩ = some (.int .i64 i) ∧ w'.cell? ⟨w10.heap.size, 1, none⟩ = some (.string tx)) (first | exact ⟨BX.out.at 0 _ rfl, BX.out.at 1 _ rfl, BX.out.at 2 _ rfl, BX.out.at 3 _ rfl, BX.out.at 4 _ rfl, BX.out.at 5 _ rfl, NX.out.at 0 _ rfl, NX.out.at 1 _ rfl, NX.out.at 2 _ rfl, NX.out.at 3 _ rfl, NX.out.at 4 _ rfl, NX.out.at 5 _ rfl, MX.out.at 0 _ rfl, MX.out.at 1 _ rfl⟩ | exact ⟨(BX.out.below BC).at 0 _ rfl, (BX.out.below BC).at 1 _ rfl, (BX.out.below BC).at 2 _ rfl, (BX.out.below BC).at 3 _ rfl, (BX.out.below BC).at 4 _ rfl, (BX.out.below BC).at 5 _ rfl, (NX.out.below BC).at 0 _ rfl, (NX.out.below BC).at 1 _ rfl, (NX.out.below BC).at 2 _ rfl, (NX.out.below BC).at 3 _ rfl, (NX.out.below BC).at 4 _ rfl, (NX.out.below BC).at 5 _ rfl, (MX.out.below BC).at 0 _ rfl, (MX.out.below BC).at 1 _ rfl⟩) (first | (go_at_call 16; refine (CF.out _ BC).mono ?_; rintro e wa ⟨v2, rfl, ⟨m2, own2⟩, hb⟩; obtain rfl := strs_len own2; obtain ⟨a2, c2, rfl, _, _⟩ := own_shape own2; have S2 := strs.At.of_own own2; have BC := BC.trans (hb.mono BC.size)) | (go_at_call 15; refine (same_any a9 a2 c9 c2 (names d.ents).length (names d.ents) _ LNN.out (ST.out.below BC) S2).mono ?_; rintro e wb ⟨rfl, hb⟩; have BC := BC.trans (hb.mono BC.size)) | (go_at_call 17; refine (CE.out _ BC).mono ?_; rintro e wc ⟨rfl, hb⟩; have BC := BC.trans (hb.mono BC.size)) | (go_at_call 18; refine (CU.out _ BC).mono ?_; rintro e wd ⟨rfl, hb⟩; have BC := BC.trans (hb.mono BC.size)) | (go_at_call 19; refine (CV.out _ BC).mono ?_; rintro e we ⟨rfl, hb⟩; have BC := BC.trans (hb.mono BC.size)) | (go_at_call 8; refine (CK.out _ BC).mono ?_; rintro e wf ⟨rfl, hb⟩; have BC := BC.trans (hb.mono BC.size)))
    all_goals
      go_wp2
      go_ret
      exact ⟨rfl, HB.out.trans (BC.mono HB.out.size)⟩
  | false =>
    refine wp_region_noPanic ?_
    refine wp_region_held_drew (S := (fun w' => w'.cell? ⟨w1.heap.size, 0, none⟩ = some (.slice aN d.nodes.length cN) ∧ w'.cell? ⟨w1.heap.size, 1, none⟩ = some (.slice aE d.ents.length cE) ∧ w'.cell? ⟨w1.heap.size, 2, none⟩ = some (.slice aO d.old.length cO) ∧ w'.cell? ⟨w1.heap.size, 3, none⟩ = some (.slice aS d.steps.length cS) ∧ w'.cell? ⟨w1.heap.size, 4, none⟩ = some (.int .i64 d.room) ∧ w'.cell? ⟨w1.heap.size, 5, none⟩ = some (.int .i64 d.next) ∧ w'.cell? ⟨w5.heap.size, 0, none⟩ = some (.slice none 0 0) ∧ w'.cell? ⟨w5.heap.size, 1, none⟩ = some (.slice none 0 0) ∧ w'.cell? ⟨w5.heap.size, 2, none⟩ = some (.slice none 0 0) ∧ w'.cell? ⟨w5.heap.size, 3, none⟩ = some (.slice none 0 0) ∧ w'.cell? ⟨w5.heap.size, 4, none⟩ = some (.int .i64 50) ∧ w'.cell? ⟨w5.heap.size, 5, none⟩ = some (.int .i64 1) ∧ w'.cell? ⟨w10.heap.size, 0, none⟩ = some (.int .i64 i) ∧ w'.cell? ⟨w10.heap.size, 1, none⟩ = some (.string tx))) (by kernel_rfl) ?hS0 (fun hHeld => ?rest0)
    case hS0 => exact ⟨(BX.out.below BC).at 0 _ rfl, (BX.out.below BC).at 1 _ rfl, (BX.out.below BC).at 2 _ rfl, (BX.out.below BC).at 3 _ rfl, (BX.out.below BC).at 4 _ rfl, (BX.out.below BC).at 5 _ rfl, (NX.out.below BC).at 0 _ rfl, (NX.out.below BC).at 1 _ rfl, (NX.out.below BC).at 2 _ rfl, (NX.out.below BC).at 3 _ rfl, (NX.out.below BC).at 4 _ rfl, (NX.out.below BC).at 5 _ rfl, (MX.out.below BC).at 0 _ rfl, (MX.out.below BC).at 1 _ rfl⟩
    refine' wpAnyH_take (i := 0) (oi := _) (v := _) ?hi3x (by kernel_rfl) (by kernel_rfl) (by kernel_rfl) (fun _ _ _ h => h) (Or.inl ⟨?hw3x, ?hy3x⟩) (by assumption) ?rest3x
    case hi3x => (simp only [List.getElem?_toArray, List.getElem?_cons_zero, List.getElem?_cons_succ]; rfl)
    case hw3x => rfl
    case hy3x => (intro w hSw; (try dsimp only at hSw); go_simp; first | done | with_reducible rfl)
    try simp only [Act.put, List.setIfInBounds_toArray, List.set_cons_zero, List.set_cons_succ]
    refine' wpAnyH_take (i := 1) (oi := _) (v := _) ?hi4x (by kernel_rfl) (by kernel_rfl) (by kernel_rfl) (fun _ _ _ h => h) (Or.inl ⟨?hw4x, ?hy4x⟩) (by assumption) ?rest4x
    case hi4x => (simp only [List.getElem?_toArray, List.getElem?_cons_zero, List.getElem?_cons_succ]; rfl)
    case hw4x => rfl
    case hy4x => (intro w hSw; (try dsimp only at hSw); go_simp; first | done | with_reducible rfl)
    try simp only [Act.put, List.setIfInBounds_toArray, List.set_cons_zero, List.set_cons_succ]
    refine' wpAnyH_take (i := 2) (oi := _) (v := _) ?hi5x (by kernel_rfl) (by kernel_rfl) (by kernel_rfl) (fun _ _ _ h => h) (Or.inl ⟨?hw5x, ?hy5x⟩) (by assumption) ?rest5x
    case hi5x => (simp only [List.getElem?_toArray, List.getElem?_cons_zero, List.getElem?_cons_succ]; rfl)
    case hw5x => rfl
    case hy5x => (intro w hSw; (try dsimp only at hSw); go_simp; first | done | with_reducible rfl)
    try simp only [Act.put, List.setIfInBounds_toArray, List.set_cons_zero, List.set_cons_succ]
    refine' wpAnyH_take (i := 3) (oi := _) (v := _) ?hi6x (by kernel_rfl) (by kernel_rfl) (by kernel_rfl) (fun _ _ _ h => h) (Or.inl ⟨?hw6x, ?hy6x⟩) (by assumption) ?rest6x
    case hi6x => (simp only [List.getElem?_toArray, List.getElem?_cons_zero, List.getElem?_cons_succ]; rfl)
    case hw6x => rfl
    case hy6x => (intro w hSw; (try dsimp only at hSw); go_simp; first | done | with_reducible rfl)
    try simp only [Act.put, List.setIfInBounds_toArray, List.set_cons_zero, List.set_cons_succ]
    refine' wpAnyH_take (i := 4) (oi := _) (v := _) ?hi7x (by kernel_rfl) (by kernel_rfl) (by kernel_rfl) (fun _ _ _ h => h) (Or.inl ⟨?hw7x, ?hy7x⟩) (by assumption) ?rest7x
    case hi7x => (simp only [List.getElem?_toArray, List.getElem?_cons_zero, List.getElem?_cons_succ]; rfl)
    case hw7x => rfl
    case hy7x => (intro w hSw; (try dsimp only at hSw); go_simp; first | done | with_reducible rfl)
    try simp only [Act.put, List.setIfInBounds_toArray, List.set_cons_zero, List.set_cons_succ]
    refine' wpAnyH_take (i := 5) (oi := _) (v := _) ?hi8x (by kernel_rfl) (by kernel_rfl) (by kernel_rfl) (fun _ _ _ h => h) (Or.inl ⟨?hw8x, ?hy8x⟩) (by assumption) ?rest8x
    case hi8x => (simp only [List.getElem?_toArray, List.getElem?_cons_zero, List.getElem?_cons_succ]; rfl)
    case hw8x => rfl
    case hy8x => (intro w hSw; (try dsimp only at hSw); go_simp; first | done | with_reducible rfl)
    try simp only [Act.put, List.setIfInBounds_toArray, List.set_cons_zero, List.set_cons_succ]
    refine' wpAnyH_take (i := 6) (oi := _) (v := _) ?hi9x (by kernel_rfl) (by kernel_rfl) (by kernel_rfl) (fun _ _ _ h => h) (Or.inl ⟨?hw9x, ?hy9x⟩) (by assumption) ?rest9x
    case hi9x => (simp only [List.getElem?_toArray, List.getElem?_cons_zero, List.getElem?_cons_succ]; rfl)
    case hw9x => rfl
    case hy9x => (intro w hSw; (try dsimp only at hSw); go_simp; first | done | with_reducible rfl)
    try simp only [Act.put, List.setIfInBounds_toArray, List.set_cons_zero, List.set_cons_succ]
    refine' wpAnyH_take (i := 7) (oi := _) (v := _) ?hi10x (by kernel_rfl) (by kernel_rfl) (by kernel_rfl) (fun _ _ _ h => h) (Or.inl ⟨?hw10x, ?hy10x⟩) (by assumption) ?rest10x
    case hi10x => (simp only [List.getElem?_toArray, List.getElem?_cons_zero, List.getElem?_cons_succ]; rfl)
    case hw10x => rfl
    case hy10x => (intro w hSw; (try dsimp only at hSw); go_simp; first | done | with_reducible rfl)
    try simp only [Act.put, List.setIfInBounds_toArray, List.set_cons_zero, List.set_cons_succ]
    refine' wpAnyH_take (i := 8) (oi := _) (v := _) ?hi11x (by kernel_rfl) (by kernel_rfl) (by kernel_rfl) (fun _ _ _ h => h) (Or.inl ⟨?hw11x, ?hy11x⟩) (by assumption) ?rest11x
    case hi11x => (simp only [List.getElem?_toArray, List.getElem?_cons_zero, List.getElem?_cons_succ]; rfl)
    case hw11x => rfl
    case hy11x => (intro w hSw; (try dsimp only at hSw); go_simp; first | done | with_reducible rfl)
    try simp only [Act.put, List.setIfInBounds_toArray, List.set_cons_zero, List.set_cons_succ]
    refine' wpAnyH_take (i := 9) (oi := _) (v := _) ?hi12x (by kernel_rfl) (by kernel_rfl) (by kernel_rfl) (fun _ _ _ h => h) (Or.inl ⟨?hw12x, ?hy12x⟩) (by assumption) ?rest12x
    case hi12x => (simp only [List.getElem?_toArray, List.getElem?_cons_zero, List.getElem?_cons_succ]; rfl)
    case hw12x => rfl
    case hy12x => (intro w hSw; (try dsimp only at hSw); go_simp; first | done | with_reducible rfl)
    try simp only [Act.put, List.setIfInBounds_toArray, List.set_cons_zero, List.set_cons_succ]
    refine' wpAnyH_take (i := 10) (oi := _) (v := _) ?hi13x (by kernel_rfl) (by kernel_rfl) (by kernel_rfl) (fun _ _ _ h => h) (Or.inl ⟨?hw13x, ?hy13x⟩) (by assumption) ?rest13x
    case hi13x => (simp only [List.getElem?_toArray, List.getElem?_cons_zero, List.getElem?_cons_succ]; rfl)
    case hw13x => rfl
    case hy13x => (intro w hSw; (try dsimp only at hSw); go_simp; first | done | with_reducible rfl)
    try simp only [Act.put, List.setIfInBounds_toArray, List.set_cons_zero, List.set_cons_succ]
    refine wpAnyH_ready (rs := [11]) (by kernel_rfl) (by simp) ?_
    refine' AllReadyH.cons (o := _) ?hi15x (fun K hK => ?step15x) AllReadyH.nil
    case hi15x => (simp only [List.getElem?_toArray, List.getElem?_cons_zero, List.getElem?_cons_succ]; rfl)
    go_simp
    (go_at_call 16; refine (CF.out _ BC).mono ?_; rintro e wa ⟨v2, rfl, ⟨m2, own2⟩, hb⟩; obtain rfl := strs_len own2; obtain ⟨a2, c2, rfl, _, _⟩ := own_shape own2; have S2 := strs.At.of_own own2; have BC := BC.trans (hb.mono BC.size))
    try (go_wp2_with fail)
    refine hK.out _ _ ?hS16x (fun hHeld => ?rest16x)
    case hS16x => exact ⟨(BX.out.below BC).at 0 _ rfl, (BX.out.below BC).at 1 _ rfl, (BX.out.below BC).at 2 _ rfl, (BX.out.below BC).at 3 _ rfl, (BX.out.below BC).at 4 _ rfl, (BX.out.below BC).at 5 _ rfl, (NX.out.below BC).at 0 _ rfl, (NX.out.below BC).at 1 _ rfl, (NX.out.below BC).at 2 _ rfl, (NX.out.below BC).at 3 _ rfl, (NX.out.below BC).at 4 _ rfl, (NX.out.below BC).at 5 _ rfl, (MX.out.below BC).at 0 _ rfl, (MX.out.below BC).at 1 _ rfl⟩
    clear hK K
    try simp only [Act.put, List.setIfInBounds_toArray, List.set_cons_zero, List.set_cons_succ]
    refine wpAnyH_ready (rs := [12]) (by kernel_rfl) (by simp) ?_
    refine' AllReadyH.cons (o := _) ?hi18x (fun K hK => ?step18x) AllReadyH.nil
    case hi18x => (simp only [List.getElem?_toArray, List.getElem?_cons_zero, List.getElem?_cons_succ]; rfl)
    go_simp
    (go_at_call 15; refine (same_any a9 a2 c9 c2 (names d.ents).length (names d.ents) _ LNN.out (ST.out.below BC) S2).mono ?_; rintro e wb ⟨rfl, hb⟩; have BC := BC.trans (hb.mono BC.size))
    try (go_wp2_with fail)
    refine hK.out _ _ ?hS19x (fun hHeld => ?rest19x)
    case hS19x => exact ⟨(BX.out.below BC).at 0 _ rfl, (BX.out.below BC).at 1 _ rfl, (BX.out.below BC).at 2 _ rfl, (BX.out.below BC).at 3 _ rfl, (BX.out.below BC).at 4 _ rfl, (BX.out.below BC).at 5 _ rfl, (NX.out.below BC).at 0 _ rfl, (NX.out.below BC).at 1 _ rfl, (NX.out.below BC).at 2 _ rfl, (NX.out.below BC).at 3 _ rfl, (NX.out.below BC).at 4 _ rfl, (NX.out.below BC).at 5 _ rfl, (MX.out.below BC).at 0 _ rfl, (MX.out.below BC).at 1 _ rfl⟩
    clear hK K
    try simp only [Act.put, List.setIfInBounds_toArray, List.set_cons_zero, List.set_cons_succ]
    refine' wpAnyH_take (i := 13) (oi := _) (v := _) ?hi20x (by kernel_rfl) (by kernel_rfl) (by kernel_rfl) (fun _ _ _ h => h) (Or.inl ⟨?hw20x, ?hy20x⟩) (by assumption) ?rest20x
    case hi20x => (simp only [List.getElem?_toArray, List.getElem?_cons_zero, List.getElem?_cons_succ]; rfl)
    case hw20x => rfl
    case hy20x => (intro w hSw; (try dsimp only at hSw); go_simp; first | done | with_reducible rfl)
    try simp only [Act.put, List.setIfInBounds_toArray, List.set_cons_zero, List.set_cons_succ]
    refine' wpAnyH_take (i := 14) (oi := _) (v := _) ?hi21x (by kernel_rfl) (by kernel_rfl) (by kernel_rfl) (fun _ _ _ h => h) (Or.inl ⟨?hw21x, ?hy21x⟩) (by assumption) ?rest21x
    case hi21x => (simp only [List.getElem?_toArray, List.getElem?_cons_zero, List.getElem?_cons_succ]; rfl)
    case hw21x => rfl
    case hy21x => (intro w hSw; (try dsimp only at hSw); go_simp; first | done | with_reducible rfl)
    try simp only [Act.put, List.setIfInBounds_toArray, List.set_cons_zero, List.set_cons_succ]
    refine' wpAnyH_take (i := 15) (oi := _) (v := _) ?hi22x (by kernel_rfl) (by kernel_rfl) (by kernel_rfl) (fun _ _ _ h => h) (Or.inl ⟨?hw22x, ?hy22x⟩) (by assumption) ?rest22x
    case hi22x => (simp only [List.getElem?_toArray, List.getElem?_cons_zero, List.getElem?_cons_succ]; rfl)
    case hw22x => rfl
    case hy22x => (intro w hSw; (try dsimp only at hSw); go_simp; first | done | with_reducible rfl)
    try simp only [Act.put, List.setIfInBounds_toArray, List.set_cons_zero, List.set_cons_succ]
    refine' wpAnyH_take (i := 16) (oi := _) (v := _) ?hi23x (by kernel_rfl) (by kernel_rfl) (by kernel_rfl) (fun _ _ _ h => h) (Or.inl ⟨?hw23x, ?hy23x⟩) (by assumption) ?rest23x
    case hi23x => (simp only [List.getElem?_toArray, List.getElem?_cons_zero, List.getElem?_cons_succ]; rfl)
    case hw23x => rfl
    case hy23x => (intro w hSw; (try dsimp only at hSw); go_simp; first | done | with_reducible rfl)
    try simp only [Act.put, List.setIfInBounds_toArray, List.set_cons_zero, List.set_cons_succ]
    refine' wpAnyH_take (i := 17) (oi := _) (v := _) ?hi24x (by kernel_rfl) (by kernel_rfl) (by kernel_rfl) (fun _ _ _ h => h) (Or.inl ⟨?hw24x, ?hy24x⟩) (by assumption) ?rest24x
    case hi24x => (simp only [List.getElem?_toArray, List.getElem?_cons_zero, List.getElem?_cons_succ]; rfl)
    case hw24x => rfl
    case hy24x => (intro w hSw; (try dsimp only at hSw); go_simp; first | done | with_reducible rfl)
    try simp only [Act.put, List.setIfInBounds_toArray, List.set_cons_zero, List.set_cons_succ]
    refine' wpAnyH_take (i := 18) (oi := _) (v := _) ?hi25x (by kernel_rfl) (by kernel_rfl) (by kernel_rfl) (fun _ _ _ h => h) (Or.inl ⟨?hw25x, ?hy25x⟩) (by assumption) ?rest25x
    case hi25x => (simp only [List.getElem?_toArray, List.getElem?_cons_zero, List.getElem?_cons_succ]; rfl)
    case hw25x => rfl
    case hy25x => (intro w hSw; (try dsimp only at hSw); go_simp; first | done | with_reducible rfl)
    try simp only [Act.put, List.setIfInBounds_toArray, List.set_cons_zero, List.set_cons_succ]
    refine' wpAnyH_take (i := 19) (oi := _) (v := _) ?hi26x (by kernel_rfl) (by kernel_rfl) (by kernel_rfl) (fun _ _ _ h => h) (Or.inl ⟨?hw26x, ?hy26x⟩) (by assumption) ?rest26x
    case hi26x => (simp only [List.getElem?_toArray, List.getElem?_cons_zero, List.getElem?_cons_succ]; rfl)
    case hw26x => rfl
    case hy26x => (intro w hSw; (try dsimp only at hSw); go_simp; first | done | with_reducible rfl)
    try simp only [Act.put, List.setIfInBounds_toArray, List.set_cons_zero, List.set_cons_succ]
    refine' wpAnyH_take (i := 20) (oi := _) (v := _) ?hi27x (by kernel_rfl) (by kernel_rfl) (by kernel_rfl) (fun _ _ _ h => h) (Or.inl ⟨?hw27x, ?hy27x⟩) (by assumption) ?rest27x
    case hi27x => (simp only [List.getElem?_toArray, List.getElem?_cons_zero, List.getElem?_cons_succ]; rfl)
    case hw27x => rfl
    case hy27x => (intro w hSw; (try dsimp only at hSw); go_simp; first | done | with_reducible rfl)
    try simp only [Act.put, List.setIfInBounds_toArray, List.set_cons_zero, List.set_cons_succ]
    refine' wpAnyH_take (i := 21) (oi := _) (v := _) ?hi28x (by kernel_rfl) (by kernel_rfl) (by kernel_rfl) (fun _ _ _ h => h) (Or.inl ⟨?hw28x, ?hy28x⟩) (by assumption) ?rest28x
    case hi28x => (simp only [List.getElem?_toArray, List.getElem?_cons_zero, List.getElem?_cons_succ]; rfl)
    case hw28x => rfl
    case hy28x => (intro w hSw; (try dsimp only at hSw); go_simp; first | done | with_reducible rfl)
    try simp only [Act.put, List.setIfInBounds_toArray, List.set_cons_zero, List.set_cons_succ]
    refine' wpAnyH_take (i := 22) (oi := _) (v := _) ?hi29x (by kernel_rfl) (by kernel_rfl) (by kernel_rfl) (fun _ _ _ h => h) (Or.inl ⟨?hw29x, ?hy29x⟩) (by assumption) ?rest29x
    case hi29x => (simp only [List.getElem?_toArray, List.getElem?_cons_zero, List.getElem?_cons_succ]; rfl)
    case hw29x => rfl
    case hy29x => (intro w hSw; (try dsimp only at hSw); go_simp; first | done | with_reducible rfl)
    try simp only [Act.put, List.setIfInBounds_toArray, List.set_cons_zero, List.set_cons_succ]
    refine' wpAnyH_take (i := 23) (oi := _) (v := _) ?hi30x (by kernel_rfl) (by kernel_rfl) (by kernel_rfl) (fun _ _ _ h => h) (Or.inl ⟨?hw30x, ?hy30x⟩) (by assumption) ?rest30x
    case hi30x => (simp only [List.getElem?_toArray, List.getElem?_cons_zero, List.getElem?_cons_succ]; rfl)
    case hw30x => rfl
    case hy30x => (intro w hSw; (try dsimp only at hSw); go_simp; first | done | with_reducible rfl)
    try simp only [Act.put, List.setIfInBounds_toArray, List.set_cons_zero, List.set_cons_succ]
    refine' wpAnyH_take (i := 24) (oi := _) (v := _) ?hi31x (by kernel_rfl) (by kernel_rfl) (by kernel_rfl) (fun _ _ _ h => h) (Or.inl ⟨?hw31x, ?hy31x⟩) (by assumption) ?rest31x
    case hi31x => (simp only [List.getElem?_toArray, List.getElem?_cons_zero, List.getElem?_cons_succ]; rfl)
    case hw31x => rfl
    case hy31x => (intro w hSw; (try dsimp only at hSw); go_simp; first | done | with_reducible rfl)
    try simp only [Act.put, List.setIfInBounds_toArray, List.set_cons_zero, List.set_cons_succ]
    refine' wpAnyH_take (i := 25) (oi := _) (v := _) ?hi32x (by kernel_rfl) (by kernel_rfl) (by kernel_rfl) (fun _ _ _ h => h) (Or.inl ⟨?hw32x, ?hy32x⟩) (by assumption) ?rest32x
    case hi32x => (simp only [List.getElem?_toArray, List.getElem?_cons_zero, List.getElem?_cons_succ]; rfl)
    case hw32x => rfl
    case hy32x => (intro w hSw; (try dsimp only at hSw); go_simp; first | done | with_reducible rfl)
    try simp only [Act.put, List.setIfInBounds_toArray, List.set_cons_zero, List.set_cons_succ]
    refine' wpAnyH_take (i := 26) (oi := _) (v := _) ?hi33x (by kernel_rfl) (by kernel_rfl) (by kernel_rfl) (fun _ _ _ h => h) (Or.inl ⟨?hw33x, ?hy33x⟩) (by assumption) ?rest33x
    case hi33x => (simp only [List.getElem?_toArray, List.getElem?_cons_zero, List.getElem?_cons_succ]; rfl)
    case hw33x => rfl
    case hy33x => (intro w hSw; (try dsimp only at hSw); go_simp; first | done | with_reducible rfl)
    try simp only [Act.put, List.setIfInBounds_toArray, List.set_cons_zero, List.set_cons_succ]
    refine' wpAnyH_take (i := 27) (oi := _) (v := _) ?hi34x (by kernel_rfl) (by kernel_rfl) (by kernel_rfl) (fun _ _ _ h => h) (Or.inl ⟨?hw34x, ?hy34x⟩) (by assumption) ?rest34x
    case hi34x => (simp only [List.getElem?_toArray, List.getElem?_cons_zero, List.getElem?_cons_succ]; rfl)
    case hw34x => rfl
    case hy34x => (intro w hSw; (try dsimp only at hSw); go_simp; first | done | with_reducible rfl)
    try simp only [Act.put, List.setIfInBounds_toArray, List.set_cons_zero, List.set_cons_succ]
    refine' wpAnyH_take (i := 28) (oi := _) (v := _) ?hi35x (by kernel_rfl) (by kernel_rfl) (by kernel_rfl) (fun _ _ _ h => h) (Or.inl ⟨?hw35x, ?hy35x⟩) (by assumption) ?rest35x
    case hi35x => (simp only [List.getElem?_toArray, List.getElem?_cons_zero, List.getElem?_cons_succ]; rfl)
    case hw35x => rfl
    case hy35x => (intro w hSw; (try dsimp only at hSw); go_simp; first | done | with_reducible rfl)
    try simp only [Act.put, List.setIfInBounds_toArray, List.set_cons_zero, List.set_cons_succ]
    refine' wpAnyH_take (i := 29) (oi := _) (v := undef) ?hi36x (by kernel_rfl) (by kernel_rfl) (by kernel_rfl) (fun _ _ _ h => h) (Or.inr ⟨?hw36x, rfl⟩) (by assumption) ?rest36x
    case hi36x => (simp only [List.getElem?_toArray, List.getElem?_cons_zero, List.getElem?_cons_succ]; rfl)
    case hw36x => rfl
    try simp only [Act.put, List.setIfInBounds_toArray, List.set_cons_zero, List.set_cons_succ]
    refine' wpAnyH_take (i := 30) (oi := _) (v := undef) ?hi37x (by kernel_rfl) (by kernel_rfl) (by kernel_rfl) (fun _ _ _ h => h) (Or.inr ⟨?hw37x, rfl⟩) (by assumption) ?rest37x
    case hi37x => (simp only [List.getElem?_toArray, List.getElem?_cons_zero, List.getElem?_cons_succ]; rfl)
    case hw37x => rfl
    try simp only [Act.put, List.setIfInBounds_toArray, List.set_cons_zero, List.set_cons_succ]
    refine' wpAnyH_take (i := 31) (oi := _) (v := undef) ?hi38x (by kernel_rfl) (by kernel_rfl) (by kernel_rfl) (fun _ _ _ h => h) (Or.inr ⟨?hw38x, rfl⟩) (by assumption) ?rest38x
    case hi38x => (simp only [List.getElem?_toArray, List.getElem?_cons_zero, List.getElem?_cons_succ]; rfl)
    case hw38x => rfl
    try simp only [Act.put, List.setIfInBounds_toArray, List.set_cons_zero, List.set_cons_succ]
    refine' wpAnyH_take (i := 32) (oi := _) (v := undef) ?hi39x (by kernel_rfl) (by kernel_rfl) (by kernel_rfl) (fun _ _ _ h => h) (Or.inr ⟨?hw39x, rfl⟩) (by assumption) ?rest39x
    case hi39x => (simp only [List.getElem?_toArray, List.getElem?_cons_zero, List.getElem?_cons_succ]; rfl)
    case hw39x => rfl
    try simp only [Act.put, List.setIfInBounds_toArray, List.set_cons_zero, List.set_cons_succ]
    refine' wpAnyH_take (i := 33) (oi := _) (v := undef) ?hi40x (by kernel_rfl) (by kernel_rfl) (by kernel_rfl) (fun _ _ _ h => h) (Or.inr ⟨?hw40x, rfl⟩) (by assumption) ?rest40x
    case hi40x => (simp only [List.getElem?_toArray, List.getElem?_cons_zero, List.getElem?_cons_succ]; rfl)
    case hw40x => rfl
    try simp only [Act.put, List.setIfInBounds_toArray, List.set_cons_zero, List.set_cons_succ]
    refine' wpAnyH_take (i := 34) (oi := _) (v := undef) ?hi41x (by kernel_rfl) (by kernel_rfl) (by kernel_rfl) (fun _ _ _ h => h) (Or.inr ⟨?hw41x, rfl⟩) (by assumption) ?rest41x
    case hi41x => (simp only [List.getElem?_toArray, List.getElem?_cons_zero, List.getElem?_cons_succ]; rfl)
    case hw41x => rfl
    try simp only [Act.put, List.setIfInBounds_toArray, List.set_cons_zero, List.set_cons_succ]
    refine' wpAnyH_take (i := 35) (oi := _) (v := undef) ?hi42x (by kernel_rfl) (by kernel_rfl) (by kernel_rfl) (fun _ _ _ h => h) (Or.inr ⟨?hw42x, rfl⟩) (by assumption) ?rest42x
    case hi42x => (simp only [List.getElem?_toArray, List.getElem?_cons_zero, List.getElem?_cons_succ]; rfl)
    case hw42x => rfl
    try simp only [Act.put, List.setIfInBounds_toArray, List.set_cons_zero, List.set_cons_succ]
    refine' wpAnyH_take (i := 36) (oi := _) (v := _) ?hi43x (by kernel_rfl) (by kernel_rfl) (by kernel_rfl) (fun _ _ _ h => h) (Or.inl ⟨?hw43x, ?hy43x⟩) (by assumption) ?rest43x
    case hi43x => (simp only [List.getElem?_toArray, List.getElem?_cons_zero, List.getElem?_cons_succ]; rfl)
    case hw43x => rfl
    case hy43x => (intro w hSw; (try dsimp only at hSw); go_simp; first | done | with_reducible rfl)
    try simp only [Act.put, List.setIfInBounds_toArray, List.set_cons_zero, List.set_cons_succ]
    refine' wpAnyH_take (i := 37) (oi := _) (v := _) ?hi44x (by kernel_rfl) (by kernel_rfl) (by kernel_rfl) (fun _ _ _ h => h) (Or.inl ⟨?hw44x, ?hy44x⟩) (by assumption) ?rest44x
    case hi44x => (simp only [List.getElem?_toArray, List.getElem?_cons_zero, List.getElem?_cons_succ]; rfl)
    case hw44x => rfl
    case hy44x => (intro w hSw; (try dsimp only at hSw); go_simp; first | done | with_reducible rfl)
    try simp only [Act.put, List.setIfInBounds_toArray, List.set_cons_zero, List.set_cons_succ]
    refine' wpAnyH_take (i := 38) (oi := _) (v := _) ?hi45x (by kernel_rfl) (by kernel_rfl) (by kernel_rfl) (fun _ _ _ h => h) (Or.inl ⟨?hw45x, ?hy45x⟩) (by assumption) ?rest45x
    case hi45x => (simp only [List.getElem?_toArray, List.getElem?_cons_zero, List.getElem?_cons_succ]; rfl)
    case hw45x => rfl
    case hy45x => (intro w hSw; (try dsimp only at hSw); go_simp; first | done | with_reducible rfl)
    try simp only [Act.put, List.setIfInBounds_toArray, List.set_cons_zero, List.set_cons_succ]
    refine' wpAnyH_take (i := 39) (oi := _) (v := _) ?hi46x (by kernel_rfl) (by kernel_rfl) (by kernel_rfl) (fun _ _ _ h => h) (Or.inl ⟨?hw46x, ?hy46x⟩) (by assumption) ?rest46x
    case hi46x => (simp only [List.getElem?_toArray, List.getElem?_cons_zero, List.getElem?_cons_succ]; rfl)
    case hw46x => rfl
    case hy46x => (intro w hSw; (try dsimp only at hSw); go_simp; first | done | with_reducible rfl)
    try simp only [Act.put, List.setIfInBounds_toArray, List.set_cons_zero, List.set_cons_succ]
    refine' wpAnyH_take (i := 41) (oi := _) (v := _) ?hi47x (by kernel_rfl) (by kernel_rfl) (by kernel_rfl) (fun _ _ _ h => h) (Or.inl ⟨?hw47x, ?hy47x⟩) (by assumption) ?rest47x
    case hi47x => (simp only [List.getElem?_toArray, List.getElem?_cons_zero, List.getElem?_cons_succ]; rfl)
    case hw47x => rfl
    case hy47x => (intro w hSw; (try dsimp only at hSw); go_simp; first | done | with_reducible rfl)
    try simp only [Act.put, List.setIfInBounds_toArray, List.set_cons_zero, List.set_cons_succ]
    refine wpAnyH_ready (rs := [40]) (by kernel_rfl) (by simp) ?_
    refine' AllReadyH.cons (o := _) ?hi49x (fun K hK => ?step49x) AllReadyH.nil
    case hi49x => (simp only [List.getElem?_toArray, List.getElem?_cons_zero, List.getElem?_cons_succ]; rfl)
    go_simp
    (go_at_call 18; refine (CU.out _ BC).mono ?_; rintro e wd ⟨rfl, hb⟩; have BC := BC.trans (hb.mono BC.size))
    try (go_wp2_with fail)
    refine hK.out _ _ ?hS50x (fun hHeld => ?rest50x)
    case hS50x => exact ⟨(BX.out.below BC).at 0 _ rfl, (BX.out.below BC).at 1 _ rfl, (BX.out.below BC).at 2 _ rfl, (BX.out.below BC).at 3 _ rfl, (BX.out.below BC).at 4 _ rfl, (BX.out.below BC).at 5 _ rfl, (NX.out.below BC).at 0 _ rfl, (NX.out.below BC).at 1 _ rfl, (NX.out.below BC).at 2 _ rfl, (NX.out.below BC).at 3 _ rfl, (NX.out.below BC).at 4 _ rfl, (NX.out.below BC).at 5 _ rfl, (MX.out.below BC).at 0 _ rfl, (MX.out.below BC).at 1 _ rfl⟩
    clear hK K
    try simp only [Act.put, List.setIfInBounds_toArray, List.set_cons_zero, List.set_cons_succ]
    refine wpAnyH_ready (rs := [42]) (by kernel_rfl) (by simp) ?_
    refine' AllReadyH.cons (o := _) ?hi52x (fun K hK => ?step52x) AllReadyH.nil
    case hi52x => (simp only [List.getElem?_toArray, List.getElem?_cons_zero, List.getElem?_cons_succ]; rfl)
    go_simp
    (go_at_call 19; refine (CV.out _ BC).mono ?_; rintro e we ⟨rfl, hb⟩; have BC := BC.trans (hb.mono BC.size))
    try (go_wp2_with fail)
    refine hK.out _ _ ?hS53x (fun hHeld => ?rest53x)
    case hS53x => exact ⟨(BX.out.below BC).at 0 _ rfl, (BX.out.below BC).at 1 _ rfl, (BX.out.below BC).at 2 _ rfl, (BX.out.below BC).at 3 _ rfl, (BX.out.below BC).at 4 _ rfl, (BX.out.below BC).at 5 _ rfl, (NX.out.below BC).at 0 _ rfl, (NX.out.below BC).at 1 _ rfl, (NX.out.below BC).at 2 _ rfl, (NX.out.below BC).at 3 _ rfl, (NX.out.below BC).at 4 _ rfl, (NX.out.below BC).at 5 _ rfl, (MX.out.below BC).at 0 _ rfl, (MX.out.below BC).at 1 _ rfl⟩
    clear hK K
    try simp only [Act.put, List.setIfInBounds_toArray, List.set_cons_zero, List.set_cons_succ]
    refine' wpAnyH_take (i := 43) (oi := _) (v := _) ?hi54x (by kernel_rfl) (by kernel_rfl) (by kernel_rfl) (fun _ _ _ h => h) (Or.inl ⟨?hw54x, ?hy54x⟩) (by assumption) ?rest54x
    case hi54x => (simp only [List.getElem?_toArray, List.getElem?_cons_zero, List.getElem?_cons_succ]; rfl)
    case hw54x => rfl
    case hy54x => (intro w hSw; (try dsimp only at hSw); go_simp; first | done | with_reducible rfl)
    try simp only [Act.put, List.setIfInBounds_toArray, List.set_cons_zero, List.set_cons_succ]
    refine' wpAnyH_take (i := 44) (oi := _) (v := _) ?hi55x (by kernel_rfl) (by kernel_rfl) (by kernel_rfl) (fun _ _ _ h => h) (Or.inl ⟨?hw55x, ?hy55x⟩) (by assumption) ?rest55x
    case hi55x => (simp only [List.getElem?_toArray, List.getElem?_cons_zero, List.getElem?_cons_succ]; rfl)
    case hw55x => rfl
    case hy55x => (intro w hSw; (try dsimp only at hSw); go_simp; first | done | with_reducible rfl)
    try simp only [Act.put, List.setIfInBounds_toArray, List.set_cons_zero, List.set_cons_succ]
    refine' wpAnyH_take (i := 45) (oi := _) (v := _) ?hi56x (by kernel_rfl) (by kernel_rfl) (by kernel_rfl) (fun _ _ _ h => h) (Or.inl ⟨?hw56x, ?hy56x⟩) (by assumption) ?rest56x
    case hi56x => (simp only [List.getElem?_toArray, List.getElem?_cons_zero, List.getElem?_cons_succ]; rfl)
    case hw56x => rfl
    case hy56x => (intro w hSw; (try dsimp only at hSw); go_simp; first | done | with_reducible rfl)
    try simp only [Act.put, List.setIfInBounds_toArray, List.set_cons_zero, List.set_cons_succ]
    refine' wpAnyH_take (i := 46) (oi := _) (v := _) ?hi57x (by kernel_rfl) (by kernel_rfl) (by kernel_rfl) (fun _ _ _ h => h) (Or.inl ⟨?hw57x, ?hy57x⟩) (by assumption) ?rest57x
    case hi57x => (simp only [List.getElem?_toArray, List.getElem?_cons_zero, List.getElem?_cons_succ]; rfl)
    case hw57x => rfl
    case hy57x => (intro w hSw; (try dsimp only at hSw); go_simp; first | done | with_reducible rfl)
    try simp only [Act.put, List.setIfInBounds_toArray, List.set_cons_zero, List.set_cons_succ]
    refine wpAnyH_ready (rs := [47]) (by kernel_rfl) (by simp) ?_
    refine' AllReadyH.cons (o := _) ?hi59x (fun K hK => ?step59x) AllReadyH.nil
    case hi59x => (simp only [List.getElem?_toArray, List.getElem?_cons_zero, List.getElem?_cons_succ]; rfl)
    go_simp
    (go_at_call 8; refine (CK.out _ BC).mono ?_; rintro e wf ⟨rfl, hb⟩; have BC := BC.trans (hb.mono BC.size))
    try (go_wp2_with fail)
    refine hK.out _ _ ?hS60x (fun hHeld => ?rest60x)
    case hS60x => exact ⟨(BX.out.below BC).at 0 _ rfl, (BX.out.below BC).at 1 _ rfl, (BX.out.below BC).at 2 _ rfl, (BX.out.below BC).at 3 _ rfl, (BX.out.below BC).at 4 _ rfl, (BX.out.below BC).at 5 _ rfl, (NX.out.below BC).at 0 _ rfl, (NX.out.below BC).at 1 _ rfl, (NX.out.below BC).at 2 _ rfl, (NX.out.below BC).at 3 _ rfl, (NX.out.below BC).at 4 _ rfl, (NX.out.below BC).at 5 _ rfl, (MX.out.below BC).at 0 _ rfl, (MX.out.below BC).at 1 _ rfl⟩
    clear hK K
    try simp only [Act.put, List.setIfInBounds_toArray, List.set_cons_zero, List.set_cons_succ]
    refine' wpAnyH_take (i := 48) (oi := _) (v := _) ?hi61x (by kernel_rfl) (by kernel_rfl) (by kernel_rfl) (fun _ _ _ h => h) (Or.inl ⟨?hw61x, ?hy61x⟩) (by assumption) ?rest61x
    case hi61x => (simp only [List.getElem?_toArray, List.getElem?_cons_zero, List.getElem?_cons_succ]; rfl)
    case hw61x => rfl
    case hy61x => (intro w hSw; (try dsimp only at hSw); go_simp; first | done | with_reducible rfl)
    try simp only [Act.put, List.setIfInBounds_toArray, List.set_cons_zero, List.set_cons_succ]
    refine' wpAnyH_take (i := 49) (oi := _) (v := _) ?hi62x (by kernel_rfl) (by kernel_rfl) (by kernel_rfl) (fun _ _ _ h => h) (Or.inl ⟨?hw62x, ?hy62x⟩) (by assumption) ?rest62x
    case hi62x => (simp only [List.getElem?_toArray, List.getElem?_cons_zero, List.getElem?_cons_succ]; rfl)
    case hw62x => rfl
    case hy62x => (intro w hSw; (try dsimp only at hSw); go_simp; first | done | with_reducible rfl)
    try simp only [Act.put, List.setIfInBounds_toArray, List.set_cons_zero, List.set_cons_succ]
    refine' wpAnyH_take (i := 50) (oi := _) (v := _) ?hi63x (by kernel_rfl) (by kernel_rfl) (by kernel_rfl) (fun _ _ _ h => h) (Or.inl ⟨?hw63x, ?hy63x⟩) (by assumption) ?rest63x
    case hi63x => (simp only [List.getElem?_toArray, List.getElem?_cons_zero, List.getElem?_cons_succ]; rfl)
    case hw63x => rfl
    case hy63x => (intro w hSw; (try dsimp only at hSw); go_simp; first | done | with_reducible rfl)
    try simp only [Act.put, List.setIfInBounds_toArray, List.set_cons_zero, List.set_cons_succ]
    refine' wpAnyH_take (i := 51) (oi := _) (v := _) ?hi64x (by kernel_rfl) (by kernel_rfl) (by kernel_rfl) (fun _ _ _ h => h) (Or.inl ⟨?hw64x, ?hy64x⟩) (by assumption) ?rest64x
    case hi64x => (simp only [List.getElem?_toArray, List.getElem?_cons_zero, List.getElem?_cons_succ]; rfl)
    case hw64x => rfl
    case hy64x => (intro w hSw; (try dsimp only at hSw); go_simp; first | done | with_reducible rfl)
    try simp only [Act.put, List.setIfInBounds_toArray, List.set_cons_zero, List.set_cons_succ]
    refine' wpAnyH_take (i := 52) (oi := _) (v := _) ?hi65x (by kernel_rfl) (by kernel_rfl) (by kernel_rfl) (fun _ _ _ h => h) (Or.inl ⟨?hw65x, ?hy65x⟩) (by assumption) ?rest65x
    case hi65x => (simp only [List.getElem?_toArray, List.getElem?_cons_zero, List.getElem?_cons_succ]; rfl)
    case hw65x => rfl
    case hy65x => (intro w hSw; (try dsimp only at hSw); go_simp; first | done | with_reducible rfl)
    try simp only [Act.put, List.setIfInBounds_toArray, List.set_cons_zero, List.set_cons_succ]
    refine' wpAnyH_take (i := 53) (oi := _) (v := _) ?hi66x (by kernel_rfl) (by kernel_rfl) (by kernel_rfl) (fun _ _ _ h => h) (Or.inl ⟨?hw66x, ?hy66x⟩) (by assumption) ?rest66x
    case hi66x => (simp only [List.getElem?_toArray, List.getElem?_cons_zero, List.getElem?_cons_succ]; rfl)
    case hw66x => rfl
    case hy66x => (intro w hSw; (try dsimp only at hSw); go_simp; first | done | with_reducible rfl)
    try simp only [Act.put, List.setIfInBounds_toArray, List.set_cons_zero, List.set_cons_succ]
    refine' wpAnyH_take (i := 54) (oi := _) (v := _) ?hi67x (by kernel_rfl) (by kernel_rfl) (by kernel_rfl) (fun _ _ _ h => h) (Or.inl ⟨?hw67x, ?hy67x⟩) (by assumption) ?rest67x
    case hi67x => (simp only [List.getElem?_toArray, List.getElem?_cons_zero, List.getElem?_cons_succ]; rfl)
    case hw67x => rfl
    case hy67x => (intro w hSw; (try dsimp only at hSw); go_simp; first | done | with_reducible rfl)
    try simp only [Act.put, List.setIfInBounds_toArray, List.set_cons_zero, List.set_cons_succ]
    refine' wpAnyH_take (i := 55) (oi := _) (v := _) ?hi68x (by kernel_rfl) (by kernel_rfl) (by kernel_rfl) (fun _ _ _ h => h) (Or.inl ⟨?hw68x, ?hy68x⟩) (by assumption) ?rest68x
    case hi68x => (simp only [List.getElem?_toArray, List.getElem?_cons_zero, List.getElem?_cons_succ]; rfl)
    case hw68x => rfl
    case hy68x => (intro w hSw; (try dsimp only at hSw); go_simp; first | done | with_reducible rfl)
    try simp only [Act.put, List.setIfInBounds_toArray, List.set_cons_zero, List.set_cons_succ]
    refine' wpAnyH_take (i := 56) (oi := _) (v := _) ?hi69x (by kernel_rfl) (by kernel_rfl) (by kernel_rfl) (fun _ _ _ h => h) (Or.inl ⟨?hw69x, ?hy69x⟩) (by assumption) ?rest69x
    case hi69x => (simp only [List.getElem?_toArray, List.getElem?_cons_zero, List.getElem?_cons_succ]; rfl)
    case hw69x => rfl
    case hy69x => (intro w hSw; (try dsimp only at hSw); go_simp; first | done | with_reducible rfl)
    try simp only [Act.put, List.setIfInBounds_toArray, List.set_cons_zero, List.set_cons_succ]
    refine' wpAnyH_take (i := 57) (oi := _) (v := _) ?hi70x (by kernel_rfl) (by kernel_rfl) (by kernel_rfl) (fun _ _ _ h => h) (Or.inl ⟨?hw70x, ?hy70x⟩) (by assumption) ?rest70x
    case hi70x => (simp only [List.getElem?_toArray, List.getElem?_cons_zero, List.getElem?_cons_succ]; rfl)
    case hw70x => rfl
    case hy70x => (intro w hSw; (try dsimp only at hSw); go_simp; first | done | with_reducible rfl)
    try simp only [Act.put, List.setIfInBounds_toArray, List.set_cons_zero, List.set_cons_succ]
    refine' wpAnyH_take (i := 58) (oi := _) (v := _) ?hi71x (by kernel_rfl) (by kernel_rfl) (by kernel_rfl) (fun _ _ _ h => h) (Or.inl ⟨?hw71x, ?hy71x⟩) (by assumption) ?rest71x
    case hi71x => (simp only [List.getElem?_toArray, List.getElem?_cons_zero, List.getElem?_cons_succ]; rfl)
    case hw71x => rfl
    case hy71x => (intro w hSw; (try dsimp only at hSw); go_simp; first | done | with_reducible rfl)
    try simp only [Act.put, List.setIfInBounds_toArray, List.set_cons_zero, List.set_cons_succ]
    refine' wpAnyH_take (i := 59) (oi := _) (v := _) ?hi72x (by kernel_rfl) (by kernel_rfl) (by kernel_rfl) (fun _ _ _ h => h) (Or.inl ⟨?hw72x, ?hy72x⟩) (by assumption) ?rest72x
    case hi72x => (simp only [List.getElem?_toArray, List.getElem?_cons_zero, List.getElem?_cons_succ]; rfl)
    case hw72x => rfl
    case hy72x => (intro w hSw; (try dsimp only at hSw); go_simp; first | done | with_reducible rfl)
    try simp only [Act.put, List.setIfInBounds_toArray, List.set_cons_zero, List.set_cons_succ]
    refine wpAnyH_done (by kernel_rfl) ?_ _
    refine NoPanic.normal ?_
    go_wp2
    go_ret
    exact ⟨rfl, HB.out.trans (BC.mono HB.out.size)⟩

end Go.Proofs.YtnhcianahmfdhaaGreatDoor.deed
