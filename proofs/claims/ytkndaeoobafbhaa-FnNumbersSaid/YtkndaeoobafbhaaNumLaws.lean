/-
  The walk of laws.FnNumbers, given what impl's functions answer.
-/
import Derived.Test.YtkndaeoobafbhaaNumS
import Derived.Test.YtkndaeoobafbhaaNumD
import Derived.Test.YtkndaeoobafbhaaPlaces
import Derived.Test.YtkndaeoobafbhaaBig
import Derived.Deep.RegionHeld3
import Derived.Deep.CutRange
namespace Go.Proofs.Ytkndaeoobafbhaa.num
open Go.RowKit
open kit

/-- what a reading is -/
theorem rvAt_form (b : ByteArray) (a : Int) (_ : b.size ≤ 1048576) : rvAt b a = no2 ∨ ∃ n v m : Nat, a = n ∧ rvAt b a = .tuple #[.int .i64 (v : Int), .int .i64 ((n + m : Nat) : Int), .bool true] ∧ vtI (v : Int) = b.extract n (n + m) ∧ n + m ≤ b.size := by
  by_cases h0 : a < 0
  · exact .inl (rvAt_neg b a h0)
  · obtain ⟨n, rfl⟩ := Int.eq_ofNat_of_zero_le (show 0 ≤ a by omega)
    cases h : rv (nats b n) with
    | none => exact .inl (rvAt_none b n h)
    | some p =>
      obtain ⟨v, m⟩ := p
      have hs := rv_some h
      have hl := rd_len 5 _ _ _ hs.1
      rw [nats_length] at hl
      refine .inr ⟨n, v, m, rfl, rvAt_some b n v m h, ?_, by omega⟩
      rw [vtI_in v hs.2.1, rv_cut h]
theorem ab_read (N : Nat) (h : N ≤ 1000000000) : rvAt (({ data := #[97, 98] } ++ vtI (N : Int)) ++ { data := #[122] }) 2 = .tuple #[.int .i64 (N : Int), .int .i64 ((2 + (vtI (N : Int)).size : Nat) : Int), .bool true] := by
  rw [ByteArray.append_assoc]
  exact rvAt_vt N h { data := #[97, 98] } { data := #[122] }
theorem a_read (N : Nat) (h : N ≤ 1000000000) : rfAt ({ data := #[97] } ++ fxI (N : Int) 4) 1 4 = .tuple #[.int .i64 (N : Int), .bool true] := by
  have e4 : (256 : Nat) ^ 4 = 4294967296 := by decide
  have e := rfAt_fx N 4 (by omega) (by omega) (by omega) (by omega) { data := #[97] } { data := #[] }
  have e2 : fxI (N : Int) ((4 : Nat) : Int) ++ { data := #[] } = fxI (N : Int) ((4 : Nat) : Int) := ByteArray.append_empty
  rw [e2] at e
  exact e
theorem fx4 (N : Nat) (h : N ≤ 1000000000) : (fxI (N : Int) 4).size = 4 := by
  have e4 : (256 : Nat) ^ 4 = 4294967296 := by decide
  have e := fxI_in N 4 (by omega) (by omega) (by omega)
  rw [show ((4 : Nat) : Int) = 4 from rfl] at e
  rw [e, txt_size, fb_length]
theorem rfAt_form (b : ByteArray) (a k : Int) : ∃ (v : Int) (o : Bool), rfAt b a k = .tuple #[.int .i64 v, .bool o] := by
  unfold rfAt
  split
  · exact ⟨_, _, rfl⟩
  · exact ⟨_, _, rfl⟩
theorem known300 : vtI 300 = { data := #[172, 2] } := by decide +kernel

theorem get_of {xs : List Int} (hl : xs.length = 12) (hr : ∀ x ∈ xs, 0 ≤ x ∧ x ≤ 9999) (j : Nat) (hj : j < 12) :
    ∃ x : Int, (xs.map (Value.int .i64))[j]? = some (.int .i64 x) ∧ 0 ≤ x ∧ x ≤ 9999 := by
  have hj' : j < xs.length := by omega
  refine ⟨xs[j], by rw [List.getElem?_map, List.getElem?_eq_getElem hj']; rfl, hr _ (List.getElem_mem hj')⟩

set_option maxHeartbeats 2000000 in
set_option maxRecDepth 20000 in
theorem numbers_small (G : World → Prop) (I : Impl G) (a : Option Addr) (len cap : Nat) (w : World) (hc : draw.CodeAt w w.heap.size a len) (hG : G w) :
    Calls Try.prog 3 #[.slice a len cap] w fun e w' => e = .returned (.bool true) ∧ Below w.heap.size w w' := by
  have HC := Lib.hid hc
  have HG := Lib.hid hG
  have HI := Lib.hid I
  have hlen := hc.1
  clear hc hG I
  go_enter Try.func3, Try.ntmps3
  go_wp2_with fail
  refine (big_no a len cap w hlen).mono ?_
  rintro e w' ⟨rfl, rfl⟩
  go_wp2_with fail
  refine (draw.readVar_any a len cap w HC.out).mono ?_
  rintro e w1 ⟨⟨b, at0, hsz, rfl⟩, b1⟩
  go_wp2_with fail
  refine (HI.out.read b at0 w1 (by omega) (HI.out.keep _ _ HG.out b1)).mono ?_
  rintro e w2 ⟨rfl, c2⟩
  have b2 := chain b1 c2
  clear c2 b1
  have hform := rvAt_form b at0 (by omega)
  obtain ⟨R, hR⟩ : ∃ R, rvAt b at0 = R := ⟨_, rfl⟩
  rw [hR] at hform
  have HR := Lib.hid hR
  rw [hR]
  clear hR
  obtain ⟨p, q, o, rfl, hf2⟩ : ∃ (p q : Int) (o : Bool), R = .tuple #[.int .i64 p, .int .i64 q, .bool o] ∧ (o = false ∨ o = true ∧ ∃ n v m : Nat, at0 = n ∧ p = v ∧ q = ((n + m : Nat) : Int) ∧ vtI (v : Int) = b.extract n (n + m) ∧ n + m ≤ b.size) := by
    rcases hform with rfl | ⟨n, v, m, h1, rfl, h2, h3⟩
    · exact ⟨0, 0, false, rfl, .inl rfl⟩
    · exact ⟨_, _, true, rfl, .inr ⟨rfl, n, v, m, h1, rfl, rfl, h2, h3⟩⟩
  have HF := Lib.hid hf2
  clear hf2 hform
  go_wp2_with fail
  refine (specRead_any b at0 w2 (by omega)).mono ?_
  rw [HR.out]
  rintro e w3 ⟨rfl, c3⟩
  have b3 := chain b2 c3
  clear c3 b2
  go_upto_region 6 with fail
  go_cut [72] from 48 (fun c wx => c = .bool false ∧ Below w.heap.size w wx)
  case first =>
    rcases HF.out with rfl | ⟨rfl, n, v, m, rfl, rfl, rfl, h1, h2⟩
    · go_quiet (fail)
      go_wp2_with fail
      go_meet
      exact ⟨rfl, below_drewN b3 _⟩
    · go_region_held (fun _ => True) (trivial) (first | (go_at_call 16; refine (HI.out.text _ _ (HI.out.keep _ _ HG.out b3.drew)).mono ?_; rw [h1]; rintro e w4 ⟨rfl, c4⟩))
      all_goals
        go_wp2_with fail
        go_meet
        exact ⟨rfl, by first | exact below_drewN (chain b3.drew c4) _ | exact chain b3.drew c4 | exact (chain b3.drew c4).drew⟩
  case rest =>
    obtain ⟨rfl, b4⟩ := hcut
    clear b3 HF
    go_wp2_with fail
    refine (draw.places_any a len cap wc ((HC.out.below b4).raise b4.size)).mono ?_
    rintro e w5 ⟨v, xs, rfl, hr, hown, c5⟩
    obtain ⟨ad, cp, rfl, hl, _, hf⟩ := own_form hown
    have hl' : xs.length = 12 := by simpa using hl
    obtain ⟨p0, x0, l0, m0⟩ := get_of hl' hr 0 (by omega)
    obtain ⟨p1, x1, l1, m1⟩ := get_of hl' hr 1 (by omega)
    obtain ⟨g, rfl, hg0, hg, hcell, _⟩ := hf.resolve_left (by omega)
    have c0 : w5.cell? ⟨g, 0, none⟩ = some (.int .i64 p0) := (hcell 0 (by omega)).trans x0
    have c1 : w5.cell? ⟨g, 1, none⟩ = some (.int .i64 p1) := (hcell 1 (by omega)).trans x1
    have b5 := chain b4 c5
    have n1 : IntKind.i64.wrap (p0 * 10000) = p0 * 10000 := by rw [IntKind.wrap_i64]; omega
    have n2 : IntKind.i64.wrap (p0 * 10000 + p1) = p0 * 10000 + p1 := by rw [IntKind.wrap_i64]; omega
    clear hr hown hl hl' x0 x1 hcell hf xs c5 b4
    go_wp2
    go_quiet (fail)
    clear n1 n2 c0 c1
    obtain ⟨N, hN⟩ : ∃ N : Nat, p0 * 10000 + p1 = (N : Int) := ⟨(p0 * 10000 + p1).toNat, by omega⟩
    have hN2 : N ≤ 1000000000 := by omega
    rw [hN]
    clear hN
    have b6 := below_drewN b5 nq
    generalize w5.drewN nq = w6 at b6 ⊢
    clear b5 l0 l1 m0 m1
    clear HR hsz
    go_wp2_with fail
    refine (HI.out.text N w6 (HI.out.keep _ _ HG.out b6)).mono ?_
    rintro e w7 ⟨rfl, c7⟩
    have b7 := chain b6 c7
    have hsz := vtI_size N
    have HA := Lib.hid (ab_read N hN2)
    obtain ⟨T, hT⟩ : ∃ T, vtI (N : Int) = T := ⟨_, rfl⟩
    rw [hT] at HA hsz
    rw [hT]
    have HT := Lib.hid hT
    have z1 : (({ data := #[97, 98] } : ByteArray)).size = 2 := rfl
    have z2 : (({ data := #[122] } : ByteArray)).size = 1 := rfl
    have z3 : (({ data := #[97, 98] } : ByteArray) ++ T).size = 2 + T.size := by rw [ByteArray.size_append, z1]
    clear hT c7 b6
    go_wp2_with fail
    refine (HI.out.read _ 2 w7 (by rw [ByteArray.size_append, z3, z2]; omega) (HI.out.keep _ _ HG.out b7)).mono ?_
    rw [HA.out]
    rintro e w8 ⟨rfl, c8⟩
    have b8 := chain b7 c8
    clear c8 b7 z3 z2 z1
    go_wp2_with fail
    refine (HI.out.fix N 4 w8 (HI.out.keep _ _ HG.out b8)).mono ?_
    rintro e w9 ⟨rfl, c9⟩
    have b9 := chain b8 c9
    have h4 := fx4 N hN2
    have HB := Lib.hid (a_read N hN2)
    obtain ⟨U, hU⟩ : ∃ U, fxI (N : Int) 4 = U := ⟨_, rfl⟩
    rw [hU] at HB h4
    rw [hU]
    have z1 : (({ data := #[97] } : ByteArray)).size = 1 := rfl
    clear hU c9 b8
    go_wp2_with fail
    refine (HI.out.rfix _ 1 4 w9 (by rw [ByteArray.size_append, z1]; omega) (HI.out.keep _ _ HG.out b9)).mono ?_
    rw [HB.out]
    rintro e w10 ⟨rfl, c10⟩
    have b10 := chain b9 c10
    clear c10 b9 z1
    go_wp2_with fail
    refine (draw.readFix_any a len cap w10 ((HC.out.below b10).raise b10.size)).mono ?_
    rintro e w11 ⟨⟨s, x, y, hs, rfl⟩, c11⟩
    have b11 := chain b10 c11
    obtain ⟨v, o2, hv⟩ := rfAt_form s x y
    have HV := Lib.hid hv
    clear hv c11 b10
    go_wp2_with fail
    refine (HI.out.rfix s x y w11 (by omega) (HI.out.keep _ _ HG.out b11)).mono ?_
    rw [HV.out]
    rintro e w12 ⟨rfl, c12⟩
    have b12 := chain b11 c12
    clear c12 b11
    go_wp2_with fail
    refine (specRf_any s x y w12 (by omega)).mono ?_
    rw [HV.out]
    rintro e w13 ⟨rfl, rfl⟩
    go_wp2_with fail
    refine (HI.out.size N w12 (HI.out.keep _ _ HG.out b12)).mono ?_
    rw [HT.out]
    rintro e w14 ⟨rfl, c14⟩
    have b14 := chain b12 c14
    clear c14 b12
    go_wp2_with fail
    refine (HI.out.text 300 w14 (HI.out.keep _ _ HG.out b14)).mono ?_
    rw [known300]
    rintro e w15 ⟨rfl, c15⟩
    have b15 := chain b14 c15
    clear c15 b14
    go_wp2
    go_ret
    exact ⟨rfl, b15⟩

set_option maxRecDepth 20000 in
theorem numbers_big (a : Option Addr) (len cap : Nat) (w : World) (h1 : 1048576 < len) :
    Calls Try.prog 3 #[.slice a len cap] w fun e w' => e = .returned (.bool true) ∧ Below w.heap.size w w' := by
  go_enter Try.func3, Try.ntmps3
  go_wp2_with fail
  refine (big_yes a len cap w h1).mono ?_
  rintro e w' ⟨rfl, rfl⟩
  go_wp2
  go_ret
  exact ⟨rfl, Below.refl _ _⟩

end Go.Proofs.Ytkndaeoobafbhaa.num
