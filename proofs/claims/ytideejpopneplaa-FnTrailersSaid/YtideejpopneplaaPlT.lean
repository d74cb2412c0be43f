/-
  The walk of FnTrailers.
-/
import Derived.Test.YtideejpopneplaaPlS
import Derived.Test.YtideejpopneplaaSlD
namespace Go.Proofs.Ytideejpopneplaa.pl
set_option maxRecDepth 20000
open Go.RowKit
open kit sum num burst hd fr recs sc

theorem rtR_form (o : Option (Nat × Nat × Nat × Nat)) : ∃ (a b c d : Int) (k : Bool), rtR o = .tuple #[.int .i64 a, .int .i64 b, .int .i64 c, .int .i64 d, .bool k] := by
  cases o with
  | none => exact ⟨_, _, _, _, _, rfl⟩
  | some x => exact ⟨_, _, _, _, _, rfl⟩
theorem trailers_big (a : Option Addr) (len cap : Nat) (w : World) (h : 1048576 < len) :
    Calls Try.prog 4 #[.slice a len cap] w fun e w' => e = .returned (.bool true) ∧ Below w.heap.size w w' := by
  go_enter Try.func4, Try.ntmps4
  go_wp2_with (go_at_call 11; refine (big_yes _ _ _ _ h).mono ?_; rintro e w' ⟨rfl, rfl⟩)
  go_ret
  exact ⟨rfl, Below.refl _ _⟩

set_option maxHeartbeats 4000000 in
theorem trailers_small (a : Option Addr) (len cap : Nat) (w : World) (hc : draw.CodeAt w w.heap.size a len) :
    Calls Try.prog 4 #[.slice a len cap] w fun e w' => e = .returned (.bool true) ∧ Below w.heap.size w w' := by
  have HC := Lib.hid hc
  have hlen := hc.1
  clear hc
  go_enter Try.func4, Try.ntmps4
  go_wp2_with (fail)
  refine (big_no _ _ _ _ hlen).mono ?_
  rintro e w' ⟨rfl, rfl⟩
  clear hlen
  go_wp2_with (fail)
  refine (draw.drawReadTrailer_any a len cap w HC.out).mono ?_
  rintro e w1 ⟨⟨b, hb, rfl⟩, b1⟩
  have B1 := Lib.hid b1
  have CI := Lib.hid (fun w => implReadTrailer b w (by omega))
  have CS := Lib.hid (fun w => specReadTrailer b w (by omega))
  have HTR := Lib.hid (fun x (h : rdT b = some x) => trT_rdT h)
  have CQ := Lib.hid (fun w => implTrailer 1 2 3 4 w)
  have h20 := tr20 (a := 1) (b := 2) (c := 3) (d := 4) ⟨by decide, by decide⟩ ⟨by decide, by decide⟩ ⟨by decide, by decide⟩ ⟨by decide, by decide⟩
  obtain ⟨Q, hQ⟩ : ∃ Q, trT 1 2 3 4 = Q := ⟨_, rfl⟩
  rw [hQ] at CQ h20
  have hq20 : (Q.size : Int) = 20 := by omega
  clear b1 hQ
  cases hr : rdT b with
  | none =>
    rw [hr, show rtR none = .tuple #[.int .i64 0, .int .i64 0, .int .i64 0, .int .i64 0, .bool false] from rfl] at CI CS
    clear hr HTR
    go_wp2_with fail
    refine (CI.out _).mono ?_
    rintro e w2 ⟨rfl, b2⟩
    have B2 := Lib.hid (B1.out.trans (b2.mono B1.out.size))
    clear b2 B1
    go_wp2_with (fail)
    refine (CS.out _).mono ?_
    rintro e w' ⟨rfl, rfl⟩
    go_wp2
    go_quiet (fail)
    go_wp2_with fail
    generalize hw3 : World.drewN w2 _ = w3
    have B3 : Hid (Below w.heap.size w w3) := Lib.hid (hw3 ▸ below_drewN B2.out _)
    clear hw3 B2
    have kI : draw.CodeAt w3 w3.heap.size a len := (HC.out.below B3.out).raise B3.out.size
    refine (draw.drawFoot_any a len cap w3 kI).mono ?_
    rintro e w4 ⟨⟨x, y, z, u, v, n, os, q, rfl, hn, hos, ho⟩, b4⟩
    have B4 := Lib.hid (B3.out.trans (b4.mono B3.out.size))
    obtain ⟨av, cv, rfl, hxl, _, _⟩ := own_form ho
    have hol : os.length = n := by simpa using hxl
    have AO := Lib.hid (ints.At.of_own ho)
    clear b4 ho kI hxl B3 CI CS
    have al := (Below.refl w4.heap.size w4).alloc (Nat.le_refl _) (.cells #[.int .i64 x, .int .i64 y, .int .i64 z, .int .i64 u] 42)
    have XB := Box.new w4 #[.int .i64 x, .int .i64 y, .int .i64 z, .int .i64 u] 42
    obtain ⟨W4, hW⟩ : ∃ W, W = w4.alloc (.cells #[.int .i64 x, .int .i64 y, .int .i64 z, .int .i64 u] 42) := ⟨_, rfl⟩
    rw [← hW] at al XB
    have B4 := Lib.hid (B4.out.trans (al.mono B4.out.size))
    have XB := Lib.hid XB
    have HW4 := Lib.hid hW
    have AO := Lib.hid (AO.out.below al)
    have f0 := XB.out.at 0 _ rfl
    have f1 := XB.out.at 1 _ rfl
    have f2 := XB.out.at 2 _ rfl
    have f3 := XB.out.at 3 _ rfl
    rw [hW] at f0 f1 f2 f3
    have hF := ftT_le ⟨x, y, z, u⟩ os q
    have HFT := Lib.hid (fun h => rdT_ftT (h := ⟨x, y, z, u⟩) (os := os) (e := q) h)
    have CI := Lib.hid (fun w (h : ints.At w av n os) => implFoot x y z u q av cv n os w (by omega) hos h)
    have CS := Lib.hid (fun w (h : ints.At w av n os) => specFoot x y z u q av cv n os w (by omega) hos h)
    obtain ⟨F, hFF⟩ : ∃ F, ftT ⟨x, y, z, u⟩ os q = F := ⟨_, rfl⟩
    rw [hFF] at CI CS hF
    simp only [hFF] at HFT
    clear hFF al hW
    go_wp2_with fail
    rw [← HW4.out]
    refine (CI.out _ AO.out).mono ?_
    rintro e w5 ⟨rfl, b5⟩
    have B5 := Lib.hid (B4.out.trans (b5.mono B4.out.size))
    have AO := Lib.hid (AO.out.below b5)
    have XB := Lib.hid (XB.out.below b5)
    clear b5 f0 f1 f2 f3 HW4 B4
    have f0 := XB.out.at 0 _ rfl
    have f1 := XB.out.at 1 _ rfl
    have f2 := XB.out.at 2 _ rfl
    have f3 := XB.out.at 3 _ rfl
    go_wp2_with fail
    refine (CS.out _ AO.out).mono ?_
    rintro e w6 ⟨rfl, b6⟩
    have B6 := Lib.hid (B5.out.trans (b6.mono B5.out.size))
    have XB := Lib.hid (XB.out.below b6)
    clear b6 f0 f1 f2 f3 AO B5
    by_cases hnul : F = nul
    · have k0 := emp_yes hnul
      clear HFT hnul
      go_wp2_with fail
      refine (CQ.out _).mono ?_
      rintro e w7 ⟨rfl, b7⟩
      have B7 := Lib.hid (B6.out.trans (b7.mono B6.out.size))
      clear b7 B6
      go_wp2
      go_ret
      exact ⟨rfl, B7.out⟩
    · have k0 := emp_no hnul
      obtain ⟨hok, m, rfl, hrd, h20F, hext⟩ := HFT.out hnul
      have hst := okH_is.1 hok
      have hy : ((y.toNat : Nat) : Int) = y := by have h1 : 1 ≤ y := hst.2.2.1; omega
      have CR := Lib.hid (fun w => implReadTrailer F w (by omega))
      rw [hrd, hol] at CR
      obtain ⟨D, hD⟩ : ∃ D, fbody ⟨x, y, z, u⟩ os (m : Int) = D := ⟨_, rfl⟩
      rw [hD] at CR hext
      have hDs : D.size ≤ 9223372036854775807 := by rw [← hext, ByteArray.size_extract]; omega
      have CU := Lib.hid (fun w => specSum D w hDs)
      obtain ⟨S, hS⟩ : ∃ S, sumT D = S := ⟨_, rfl⟩
      rw [hS] at CR CU
      rw [show rtR (some (m, n, (⟨x, y, z, u⟩ : Hd).s.toNat, S)) = .tuple #[.int .i64 (m : Int), .int .i64 (n : Int), .int .i64 ((y.toNat : Nat) : Int), .int .i64 (S : Int), .bool true] from rfl, hy] at CR
      obtain ⟨r, hr⟩ : ∃ r, F.size - 8 = r := ⟨_, rfl⟩
      rw [hr] at hext
      have er : (F.size : Int) - 8 = (r : Int) := by omega
      have erl : r ≤ F.size := by omega
      have HEX := Lib.hid hext
      clear HFT hnul hok hrd hst hy hD hS hr hext
      go_wp2_with fail
      refine (CR.out _).mono ?_
      rintro e w7 ⟨rfl, b7⟩
      have B7 := Lib.hid (B6.out.trans (b7.mono B6.out.size))
      have XB := Lib.hid (XB.out.below b7)
      clear b7 B6
      have f0 := XB.out.at 0 _ rfl
      have f1 := XB.out.at 1 _ rfl
      have f2 := XB.out.at 2 _ rfl
      have f3 := XB.out.at 3 _ rfl
      go_wp2_with fail
      rw [HEX.out]
      refine (CU.out _).mono ?_
      rintro e w' ⟨rfl, rfl⟩
      go_wp2_with fail
      refine (CQ.out _).mono ?_
      rintro e w8 ⟨rfl, b8⟩
      have B8 := Lib.hid (B7.out.trans (b8.mono B7.out.size))
      clear b8 B7
      go_wp2
      go_ret
      exact ⟨rfl, B8.out⟩
  | some x =>
    obtain ⟨x1, x2, x3, x4⟩ := x
    have HX := Lib.hid (HTR.out (x1, x2, x3, x4) hr)
    rw [hr, show rtR (some (x1, x2, x3, x4)) = .tuple #[.int .i64 (x1 : Int), .int .i64 (x2 : Int), .int .i64 (x3 : Int), .int .i64 (x4 : Int), .bool true] from rfl] at CI CS
    have CT := Lib.hid (fun w => implTrailer (x1 : Int) (x2 : Int) (x3 : Int) (x4 : Int) w)
    have hTl := trT_le (x1 : Int) (x2 : Int) (x3 : Int) (x4 : Int)
    obtain ⟨T, hT⟩ : ∃ T, trT (x1 : Int) (x2 : Int) (x3 : Int) (x4 : Int) = T := ⟨_, rfl⟩
    rw [hT] at CT hTl
    have he : b.extract (b.size - 20) b.size = T := by rw [← hT]; exact HX.out.2.1
    have hb20 : 20 ≤ b.size := HX.out.1
    obtain ⟨p, hp⟩ : ∃ p, b.size - 20 = p := ⟨_, rfl⟩
    rw [hp] at he
    have eb : (b.size : Int) - 20 = (p : Int) := by omega
    have epb : p ≤ b.size := by omega
    have kT : (T.toList == (b.extract p b.size).toList) = true := str_yes he.symm
    clear hr HTR hT he HX hp
    go_wp2_with fail
    refine (CI.out _).mono ?_
    rintro e w2 ⟨rfl, b2⟩
    have B2 := Lib.hid (B1.out.trans (b2.mono B1.out.size))
    clear b2 B1
    go_wp2_with (fail)
    refine (CS.out _).mono ?_
    rintro e w' ⟨rfl, rfl⟩
    go_wp2
    refine wp_region_later (by kernel_rfl) (by kernel_rfl) ?_
    repeat (first | go_big_quiet_skip | (go_big_quiet_want; go_big_quiet_op; go_big_quiet_on))
    go_big_quiet_want
    go_big_quiet_op
    apply Exists.intro
    refine ⟨fun x => ?_, ?_⟩
    · go_at_call 24
      exact Calls.later (CT.out x.val)
    go_big_quiet_on
    repeat (first | go_big_quiet_skip | (go_big_quiet_want; go_big_quiet_op; go_big_quiet_on))
    refine wpQuiet_nil ?_
    rintro w3 ⟨x2, hx2⟩
    have bl : Below w2.heap.size w2 w3 := hx2 ▸ x2.2
    clear hx2 x2
    have B3 := Lib.hid (B2.out.trans (bl.mono B2.out.size))
    clear bl B2 kT hb20 eb epb hTl CT
    go_wp2_with fail
    have kI : draw.CodeAt w3 w3.heap.size a len := (HC.out.below B3.out).raise B3.out.size
    refine (draw.drawFoot_any a len cap w3 kI).mono ?_
    rintro e w4 ⟨⟨x, y, z, u, v, n, os, q, rfl, hn, hos, ho⟩, b4⟩
    have B4 := Lib.hid (B3.out.trans (b4.mono B3.out.size))
    obtain ⟨av, cv, rfl, hxl, _, _⟩ := own_form ho
    have hol : os.length = n := by simpa using hxl
    have AO := Lib.hid (ints.At.of_own ho)
    clear b4 ho kI hxl B3 CI CS
    have al := (Below.refl w4.heap.size w4).alloc (Nat.le_refl _) (.cells #[.int .i64 x, .int .i64 y, .int .i64 z, .int .i64 u] 42)
    have XB := Box.new w4 #[.int .i64 x, .int .i64 y, .int .i64 z, .int .i64 u] 42
    obtain ⟨W4, hW⟩ : ∃ W, W = w4.alloc (.cells #[.int .i64 x, .int .i64 y, .int .i64 z, .int .i64 u] 42) := ⟨_, rfl⟩
    rw [← hW] at al XB
    have B4 := Lib.hid (B4.out.trans (al.mono B4.out.size))
    have XB := Lib.hid XB
    have HW4 := Lib.hid hW
    have AO := Lib.hid (AO.out.below al)
    have f0 := XB.out.at 0 _ rfl
    have f1 := XB.out.at 1 _ rfl
    have f2 := XB.out.at 2 _ rfl
    have f3 := XB.out.at 3 _ rfl
    rw [hW] at f0 f1 f2 f3
    have hF := ftT_le ⟨x, y, z, u⟩ os q
    have HFT := Lib.hid (fun h => rdT_ftT (h := ⟨x, y, z, u⟩) (os := os) (e := q) h)
    have CI := Lib.hid (fun w (h : ints.At w av n os) => implFoot x y z u q av cv n os w (by omega) hos h)
    have CS := Lib.hid (fun w (h : ints.At w av n os) => specFoot x y z u q av cv n os w (by omega) hos h)
    obtain ⟨F, hFF⟩ : ∃ F, ftT ⟨x, y, z, u⟩ os q = F := ⟨_, rfl⟩
    rw [hFF] at CI CS hF
    simp only [hFF] at HFT
    clear hFF al hW
    go_wp2_with fail
    rw [← HW4.out]
    refine (CI.out _ AO.out).mono ?_
    rintro e w5 ⟨rfl, b5⟩
    have B5 := Lib.hid (B4.out.trans (b5.mono B4.out.size))
    have AO := Lib.hid (AO.out.below b5)
    have XB := Lib.hid (XB.out.below b5)
    clear b5 f0 f1 f2 f3 HW4 B4
    have f0 := XB.out.at 0 _ rfl
    have f1 := XB.out.at 1 _ rfl
    have f2 := XB.out.at 2 _ rfl
    have f3 := XB.out.at 3 _ rfl
    go_wp2_with fail
    refine (CS.out _ AO.out).mono ?_
    rintro e w6 ⟨rfl, b6⟩
    have B6 := Lib.hid (B5.out.trans (b6.mono B5.out.size))
    have XB := Lib.hid (XB.out.below b6)
    clear b6 f0 f1 f2 f3 AO B5
    by_cases hnul : F = nul
    · have k0 := emp_yes hnul
      clear HFT hnul
      go_wp2_with fail
      refine (CQ.out _).mono ?_
      rintro e w7 ⟨rfl, b7⟩
      have B7 := Lib.hid (B6.out.trans (b7.mono B6.out.size))
      clear b7 B6
      go_wp2
      go_ret
      exact ⟨rfl, B7.out⟩
    · have k0 := emp_no hnul
      obtain ⟨hok, m, rfl, hrd, h20F, hext⟩ := HFT.out hnul
      have hst := okH_is.1 hok
      have hy : ((y.toNat : Nat) : Int) = y := by have h1 : 1 ≤ y := hst.2.2.1; omega
      have CR := Lib.hid (fun w => implReadTrailer F w (by omega))
      rw [hrd, hol] at CR
      obtain ⟨D, hD⟩ : ∃ D, fbody ⟨x, y, z, u⟩ os (m : Int) = D := ⟨_, rfl⟩
      rw [hD] at CR hext
      have hDs : D.size ≤ 9223372036854775807 := by rw [← hext, ByteArray.size_extract]; omega
      have CU := Lib.hid (fun w => specSum D w hDs)
      obtain ⟨S, hS⟩ : ∃ S, sumT D = S := ⟨_, rfl⟩
      rw [hS] at CR CU
      rw [show rtR (some (m, n, (⟨x, y, z, u⟩ : Hd).s.toNat, S)) = .tuple #[.int .i64 (m : Int), .int .i64 (n : Int), .int .i64 ((y.toNat : Nat) : Int), .int .i64 (S : Int), .bool true] from rfl, hy] at CR
      obtain ⟨r, hr⟩ : ∃ r, F.size - 8 = r := ⟨_, rfl⟩
      rw [hr] at hext
      have er : (F.size : Int) - 8 = (r : Int) := by omega
      have erl : r ≤ F.size := by omega
      have HEX := Lib.hid hext
      clear HFT hnul hok hrd hst hy hD hS hr hext
      go_wp2_with fail
      refine (CR.out _).mono ?_
      rintro e w7 ⟨rfl, b7⟩
      have B7 := Lib.hid (B6.out.trans (b7.mono B6.out.size))
      have XB := Lib.hid (XB.out.below b7)
      clear b7 B6
      have f0 := XB.out.at 0 _ rfl
      have f1 := XB.out.at 1 _ rfl
      have f2 := XB.out.at 2 _ rfl
      have f3 := XB.out.at 3 _ rfl
      go_wp2_with fail
      rw [HEX.out]
      refine (CU.out _).mono ?_
      rintro e w' ⟨rfl, rfl⟩
      go_wp2_with fail
      refine (CQ.out _).mono ?_
      rintro e w8 ⟨rfl, b8⟩
      have B8 := Lib.hid (B7.out.trans (b8.mono B7.out.size))
      clear b8 B7
      go_wp2
      go_ret
      exact ⟨rfl, B8.out⟩

end Go.Proofs.Ytideejpopneplaa.pl
