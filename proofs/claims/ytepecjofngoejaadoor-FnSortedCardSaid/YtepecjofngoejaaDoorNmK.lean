/-
  impl.ReadName: its contract.
-/
import Derived.Test.YtepecjofngoejaaDoorNmJ
namespace Go.Proofs.YtepecjofngoejaaDoor.nam
open Go.RowKit
open kit
open num

set_option maxRecDepth 1000000
def tmpB : ByteArray := { data := #[46, 116, 109, 112] }
theorem seg_no_suffix (n : Nat) : Lib.hasSuffix (seg n).data.toList tmpB.data.toList = false := by
  cases h : Lib.hasSuffix (seg n).data.toList tmpB.data.toList with
  | false => rfl
  | true =>
    exfalso
    obtain ⟨l, hl⟩ := List.isSuffixOf_iff_suffix.1 (show tmpB.data.toList.isSuffixOf (seg n).data.toList = true from h)
    have h1 : (seg n).data.toList.getLast? = some 112 := by rw [← hl, List.getLast?_append]; rfl
    have h2 : (seg n).data.toList.getLast? = some 103 := by
      have e : seg n = txt ([115] ++ hexd 8 n) ++ txt [46, 115, 101, 103] := by unfold seg; rw [txt_append]
      have e2 : (seg n).data.toList = (txt ([115] ++ hexd 8 n)).data.toList ++ [46, 115, 101, 103] := by
        rw [e]
        simp [ByteArray.data_append]
        rfl
      rw [e2, List.getLast?_append]
      rfl
    rw [h1] at h2
    cases h2
theorem tmp_suffix (t : ByteArray) : Lib.hasSuffix (t ++ tmpB).data.toList tmpB.data.toList = true := by
  show tmpB.data.toList.isSuffixOf _ = true
  rw [List.isSuffixOf_iff_suffix]
  exact ⟨t.data.toList, by simp [ByteArray.data_append]⟩
theorem suffix_split (b : ByteArray) (h : Lib.hasSuffix b.data.toList tmpB.data.toList = true) : ∃ t : ByteArray, b = t ++ tmpB ∧ (⟨(Lib.trimSuffix b.data.toList tmpB.data.toList).toArray⟩ : ByteArray) = t := by
  obtain ⟨l, hl⟩ := List.isSuffixOf_iff_suffix.1 (show tmpB.data.toList.isSuffixOf b.data.toList = true from h)
  refine ⟨⟨l.toArray⟩, ?_, ?_⟩
  · apply ByteArray.ext
    apply Array.ext'
    rw [← hl]
    simp [ByteArray.data_append]
  · unfold Lib.trimSuffix
    rw [if_pos h, ← hl]
    simp
theorem append_tmp_inj {s t : ByteArray} (h : s ++ tmpB = t ++ tmpB) : s = t := by
  have e : s.data.toList ++ tmpB.data.toList = t.data.toList ++ tmpB.data.toList := by
    have := congrArg (fun x : ByteArray => x.data.toList) h
    simpa [ByteArray.data_append] using this
  apply ByteArray.ext
  apply Array.ext'
  exact List.append_cancel_right e

theorem implRead_any (b : ByteArray) (w : World) (hb : b.size ≤ 1048576) (h64 : Tab64 w) (hs : Synt w) :
    Calls Tryd.prog 16 #[.string b] w (PostR (rnV b) w) := by
  cases hx : Lib.hasSuffix b.data.toList tmpB.data.toList with
  | true =>
    obtain ⟨t, hbt, htr⟩ := suffix_split b hx
    have htz : t.size ≤ 1048576 := by
      have := congrArg ByteArray.size hbt
      rw [ByteArray.size_append] at this
      omega
    have hC : Calls Tryd.prog 38 #[.string b, .string { data := #[46, 116, 109, 112] }] w fun e w' => e = .returned (.tuple #[.string t, .bool true]) ∧ w = w' :=
      (Tryd.strings_CutSuffix b tmpB w (by omega)).mono fun e w' ⟨h1, h2⟩ => ⟨by rw [h1, htr, hx], h2.symm⟩
    have HC := Lib.hid hC
    have HP := Lib.hid (segBase_any t w htz h64 hs)
    have HT := Lib.hid hbt
    clear hC h64 hs htr hx hbt
    go_enter Tryd.func16, Tryd.ntmps16
    go_wp2_with fail
    refine HC.out.mono ?_
    rintro e w1 ⟨rfl, rfl⟩
    go_wp2_with fail
    refine HP.out.mono ?_
    rintro e w2 ⟨⟨n, hn, hsg, rfl⟩ | ⟨hno, rfl⟩, b2⟩
    · have HR := Lib.hid (show rnV b = .tuple #[.int .i64 2, .int .i64 (n : Int)] by
        have e : rn b = (2, (n : Int)) := by
          rw [← rn_of_tmp n hn, tmpI_in n hn, hsg, HT.out]
          rfl
        unfold rnV
        rw [e])
      clear hsg
      go_wp2
      go_ret2
      exact ⟨by rw [HR.out]; rfl, b2⟩
    · have HR := Lib.hid (show rnV b = .tuple #[.int .i64 0, .int .i64 0] by
        have e : rn b = (0, 0) := by
          refine rn_none b fun n hn => ⟨?_, ?_⟩
          · rw [segI_in n hn]
            intro h
            have h1 := seg_no_suffix n
            rw [h, HT.out, tmp_suffix] at h1
            cases h1
          · rw [tmpI_in n hn]
            intro h
            exact hno n hn (append_tmp_inj (h.trans HT.out))
        unfold rnV
        rw [e])
      clear hno
      go_wp2
      go_ret2
      exact ⟨by rw [HR.out]; rfl, b2⟩
  | false =>
    have hC : Calls Tryd.prog 38 #[.string b, .string { data := #[46, 116, 109, 112] }] w fun e w' => e = .returned (.tuple #[.string b, .bool false]) ∧ w = w' :=
      (Tryd.strings_CutSuffix b tmpB w (by omega)).mono fun e w' ⟨h1, h2⟩ => ⟨by rw [h1, hx]; unfold Lib.trimSuffix; rw [if_neg (by rw [hx]; decide)], h2.symm⟩
    have HC := Lib.hid hC
    have HP := Lib.hid (segBase_any b w hb h64 hs)
    have HX := Lib.hid hx
    clear hC h64 hs hx
    go_enter Tryd.func16, Tryd.ntmps16
    go_wp2_with fail
    refine HC.out.mono ?_
    rintro e w1 ⟨rfl, rfl⟩
    go_wp2_with fail
    refine HP.out.mono ?_
    rintro e w2 ⟨⟨n, hn, hsg, rfl⟩ | ⟨hno, rfl⟩, b2⟩
    · have HR := Lib.hid (show rnV b = .tuple #[.int .i64 1, .int .i64 (n : Int)] by
        have e : rn b = (1, (n : Int)) := by
          rw [← rn_of_seg n hn, segI_in n hn, hsg]
        unfold rnV
        rw [e])
      clear hsg
      go_wp2
      go_ret2
      exact ⟨by rw [HR.out]; rfl, b2⟩
    · have HR := Lib.hid (show rnV b = .tuple #[.int .i64 0, .int .i64 0] by
        have e : rn b = (0, 0) := by
          refine rn_none b fun n hn => ⟨?_, ?_⟩
          · rw [segI_in n hn]
            exact hno n hn
          · rw [tmpI_in n hn]
            intro h
            have h1 := HX.out
            rw [← h] at h1
            rw [show seg n ++ ({ data := #[46, 116, 109, 112] } : ByteArray) = seg n ++ tmpB from rfl, tmp_suffix] at h1
            cases h1
        unfold rnV
        rw [e])
      clear hno
      go_wp2
      go_ret2
      exact ⟨by rw [HR.out]; rfl, b2⟩

end Go.Proofs.YtepecjofngoejaaDoor.nam
