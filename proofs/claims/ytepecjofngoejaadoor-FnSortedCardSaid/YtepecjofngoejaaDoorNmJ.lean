/-
  impl.segmentBase and impl.ReadName: their contracts, in worlds that hold the library's table of 64 and its error for texts that are no numbers.
-/
import Derived.Test.YtepecjofngoejaaDoorNmI
import Derived.Test.YtepecjofngoejaaDoorShelfB
namespace Go.Proofs.YtepecjofngoejaaDoor.nam
open Go.RowKit
open kit
open num

set_option maxRecDepth 1000000
def Synt (w : World) : Prop := ∃ te pe, w.cell? ⟨3, 0, none⟩ = some (.iface te pe)
theorem synt_below {W W' : World} (h : Synt W) (hb : Below W.heap.size W W') : Synt W' := by
  obtain ⟨te, pe, hc⟩ := h
  exact ⟨te, pe, by rw [hb.cell (p := ⟨3, 0, none⟩) (World.block_lt_of_cell? W _ hc)]; exact hc⟩
/-- what is known of the public ParseInt's answer -/
def PostP (s : ByteArray) (w : World) (e : Ending) (w' : World) : Prop :=
  ((∃ N, e = .returned (.tuple #[.int .i64 0, .iface 125 (.pointer (some ⟨N, 0, none⟩))]) ∧ uval (nats s 0) = none) ∨ ∃ n : Int, e = .returned (.tuple #[.int .i64 n, .nilIface]) ∧ -4294967296 < n ∧ n < 4294967296 ∧ ∀ v : Nat, uval (nats s 0) = some v → n = (v : Int)) ∧ Below w.heap.size w w'
theorem parseInt16_any (s : ByteArray) (w : World) (h8 : s.size = 8) (h : Synt w) :
    Calls Tryd.prog 56 #[.string s, .int .i64 16, .int .i64 64] w (PostP s w) := by
  have HP := Lib.hid (parseInt16_int s w h8)
  have HS := Lib.hid h
  clear h
  go_enter Tryd.func56, Tryd.ntmps56
  go_wp2_with fail
  refine HP.out.mono ?_
  rintro e w1 ⟨⟨rfl, hn⟩ | ⟨n, rfl, h1, h2, h3⟩, b1⟩
  · have HN := Lib.hid hn
    clear hn
    unfold piE
    go_wp2_with (go_at_call 73; obtain ⟨te, pe, hc⟩ := synt_below HS.out b1; refine (Tryd.strconv_toError_syntax _ s 16 64 _ w1 (by omega) hc (.inr ⟨te, pe, rfl⟩)).mono ?_; rintro e w2 ⟨N, rfl, _, _, c2⟩)
    go_ret2
    exact ⟨.inl ⟨N, rfl, HN.out⟩, chain b1 c2⟩
  · unfold piN
    have H3 := Lib.hid h3
    clear h3
    go_wp2
    go_ret2
    exact ⟨.inr ⟨n, rfl, h1, h2, H3.out⟩, b1⟩

/-- what segmentBase answers -/
def PostB (b : ByteArray) (w : World) (e : Ending) (w' : World) : Prop :=
  ((∃ n : Nat, n ≤ 1000000000 ∧ seg n = b ∧ e = .returned (.tuple #[.int .i64 (n : Int), .bool true])) ∨ ((∀ n : Nat, n ≤ 1000000000 → seg n ≠ b) ∧ e = .returned (.tuple #[.int .i64 0, .bool false]))) ∧ Below w.heap.size w w'
theorem seg_cut (n : Nat) (b : ByteArray) (hn : n ≤ 1000000000) (h : seg n = b) : uval (nats (b.extract 1 9) 0) = some n := by
  have e8 : (16 : Nat) ^ 8 = 4294967296 := by decide
  rw [show b.extract 1 9 = b.extract 1 (1 + 8) from rfl, nats_extract, ← h, seg_digits]
  exact uval_hval _ _ (hval_hexd 8 n (by omega))
theorem segBase_any (b : ByteArray) (w : World) (hb : b.size ≤ 1048576) (h64 : Tab64 w) (hs : Synt w) :
    Calls Tryd.prog 39 #[.string b] w (PostB b w) := by
  by_cases h13 : b.size = 13
  · obtain ⟨t, ht⟩ : ∃ t, b.extract 1 9 = t := ⟨_, rfl⟩
    have ht8 : t.size = 8 := by rw [← ht, ByteArray.size_extract]; omega
    have HP := Lib.hid (parseInt16_any t w ht8 hs)
    have HC := Lib.hid (fun (n : Nat) (hn : n ≤ 1000000000) (h : seg n = b) => (by have := seg_cut n b hn h; rwa [ht] at this : uval (nats t 0) = some n))
    have H64 := Lib.hid h64
    clear h64 hs
    go_enter Tryd.func39, Tryd.ntmps39
    go_wp2_with fail
    refine HP.out.mono ?_
    rintro e w1 ⟨⟨N, rfl, hn⟩ | ⟨n, rfl, h1, h2, h3⟩, b1⟩
    · have HN := Lib.hid hn
      clear hn
      go_wp2
      go_ret2
      refine ⟨.inr ⟨fun n hn h => ?_, rfl⟩, b1⟩
      have := HC.out n hn h
      rw [HN.out] at this
      cases this
    · have H3 := Lib.hid h3
      clear h3
      obtain ⟨S, hS⟩ : ∃ S, segI n = S := ⟨_, rfl⟩
      have HS := Lib.hid hS
      have HQ := Lib.hid (implSeg_any n w1 (tab64_below H64.out b1))
      rw [hS] at HQ
      clear hS
      by_cases hSb : S = b
      · subst hSb
        have hn : 0 ≤ n ∧ n ≤ 1000000000 := by
          by_cases hn : 0 ≤ n ∧ n ≤ 1000000000
          · exact hn
          · have := HS.out
            rw [segI_out n hn] at this
            rw [← this] at h13
            cases h13
        obtain ⟨m, rfl⟩ := Int.eq_ofNat_of_zero_le hn.1
        go_wp2_with (go_at_call 13; refine HQ.out.mono ?_; rintro e w2 ⟨rfl, c2⟩)
        go_ret2
        exact ⟨.inl ⟨m, by omega, by rw [← HS.out, segI_in m (by omega)], rfl⟩, chain b1 c2⟩
      · have hne := str_ne hSb
        have HB := Lib.hid hSb
        clear hSb
        go_wp2_with (go_at_call 13; refine HQ.out.mono ?_; rintro e w2 ⟨rfl, c2⟩)
        go_ret2
        refine ⟨.inr ⟨fun m hm h => ?_, rfl⟩, chain b1 c2⟩
        have e := H3.out m (HC.out m hm h)
        subst e
        exact HB.out (by rw [← HS.out, segI_in m hm, h])
  · clear h64 hs
    have HN := Lib.hid (fun (n : Nat) (h : seg n = b) => h13 (by rw [← h, seg_size]))
    have hne : ¬ (b.size : Int) = 13 := by omega
    go_enter Tryd.func39, Tryd.ntmps39
    go_wp2
    go_ret2
    exact ⟨.inr ⟨fun n _ h => HN.out n h, rfl⟩, Below.refl _ _⟩

end Go.Proofs.YtepecjofngoejaaDoor.nam
