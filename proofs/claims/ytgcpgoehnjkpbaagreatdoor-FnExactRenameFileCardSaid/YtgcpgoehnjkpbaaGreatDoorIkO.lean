/-
  The landed program's doStep: it does what spec's step does.
-/
import Derived.Test.YtgcpgoehnjkpbaaGreatDoorIkN
namespace Go.Proofs.YtgcpgoehnjkpbaaGreatDoor.ik
open Go.RowKit Go.Maps
open kit strs recs disk deed

theorem has_nok {l : List Ent} (h : Nok l) {s : ByteArray} (hs : hasE l s = true) : nam.nok s = true := by
  cases e : entAt l s with
  | none => unfold hasE at hs; rw [e] at hs; cases hs
  | some i => exact h _ (at_mem e)
theorem nok_empty : nam.nok { data := #[] } = false := by decide
theorem readN_empty : (readN { data := #[] }).2 = false := by
  unfold readN
  cases h : rd.RD ({ data := #[] } : ByteArray).data.toList with
  | none => rfl
  | some n => exact absurd (rd.rd_some.1 h).2 (rd.digits_ne n)
theorem has_empty {l : List Ent} (h : Nok l) : hasE l { data := #[] } = false := by
  cases e : hasE l { data := #[] } with
  | false => rfl
  | true => have := has_nok h e; rw [nok_empty] at this; cases this
theorem ext_one {s : ByteArray} (h : s.size = 1) : s.extract 1 s.size = { data := #[] } := by
  apply ByteArray.ext
  apply Array.toList_inj.1
  rw [ext_tail, List.drop_of_length_le (by rw [Array.length_toList]; show s.size ≤ 1; omega)]
theorem cut_empty : cutA { data := #[] } = { data := #[] } ∧ cutB { data := #[] } = { data := #[] } := by
  constructor <;> decide
theorem step_none {l : List Ent} {s : ByteArray} (h : (saidOf s).ok = false) : doStep l s = none := by
  unfold doStep
  rw [if_pos (.inl h)]
theorem noSaid_ok : noSaid.ok = false := rfl
theorem step_plus {l : List Ent} {s : ByteArray} (hl : Srt l) (h1 : 1 ≤ s.size) (hc : byteAt s 0 = 43) :
    doStep l s = if (readN (cutB (s.extract 1 s.size))).2 = true ∧ nam.nok (cutA (s.extract 1 s.size)) = true then some (insE (cutA (s.extract 1 s.size), (readN (cutB (s.extract 1 s.size))).1) l) else none := by
  by_cases hsz : s.size < 2
  · rw [step_none (by rw [said_short hsz]; rfl), ext_one (by omega), cut_empty.2, if_neg (fun e => by rw [readN_empty] at e; cases e.1)]
  · cases hcol : colon s (s.size - 1) 1 with
    | none =>
      have hb : cutB (s.extract 1 s.size) = { data := #[] } := cut_none h1 hcol
      rw [step_none (by rw [said_none hsz (.inl hc) hcol]; rfl), hb, if_neg (fun e => by rw [readN_empty] at e; cases e.1)]
    | some i =>
      obtain ⟨ha, hb⟩ := cut_some h1 hcol
      have ha : cutA (s.extract 1 s.size) = s.extract 1 i := ha
      have hb : cutB (s.extract 1 s.size) = s.extract (i + 1) s.size := hb
      rw [ha, hb]
      unfold doStep
      rw [said_plus hsz hc hcol]
      simp only []
      by_cases e : (readN (s.extract (i + 1) s.size)).2 = true ∧ nam.nok (s.extract 1 i) = true
      · rw [if_neg (by rw [e.1, e.2]; simp), if_pos hc, if_pos e, putE_ins _ hl]
      · rw [if_neg e, if_pos]
        cases e1 : (readN (s.extract (i + 1) s.size)).2
        · simp
        · cases e2 : nam.nok (s.extract 1 i)
          · simp
          · exact absurd ⟨e1, e2⟩ e
theorem step_minus {l : List Ent} {s : ByteArray} (hn : Nok l) (h1 : 1 ≤ s.size) (hc : byteAt s 0 = 45) :
    doStep l s = if hasE l (s.extract 1 s.size) = true then some (dropE l (s.extract 1 s.size)) else none := by
  by_cases hsz : s.size < 2
  · rw [step_none (by rw [said_short hsz]; rfl), ext_one (by omega), has_empty hn]
    rfl
  · unfold doStep
    rw [said_minus hsz hc]
    simp only []
    by_cases e : hasE l (s.extract 1 s.size) = true
    · rw [if_neg (by rw [has_nok hn e]; simp), if_neg (by omega), if_neg (by rw [e]; simp), if_neg (by omega), if_pos e]
    · rw [if_neg e]
      by_cases e2 : nam.nok (s.extract 1 s.size) = false
      · rw [if_pos (.inr e2)]
      · rw [if_neg (by simpa using e2), if_neg (by omega), if_pos (by simpa using e)]
theorem step_move {l : List Ent} {s : ByteArray} (hl : Srt l) (hn : Nok l) (h1 : 1 ≤ s.size) (hc : byteAt s 0 = 62) :
    doStep l s = if hasE l (cutA (s.extract 1 s.size)) = true ∧ ¬ cutA (s.extract 1 s.size) = cutB (s.extract 1 s.size) ∧ nam.nok (cutB (s.extract 1 s.size)) = true then some (insE (cutB (s.extract 1 s.size), idE l (cutA (s.extract 1 s.size))) (dropE l (cutA (s.extract 1 s.size)))) else none := by
  by_cases hsz : s.size < 2
  · rw [step_none (by rw [said_short hsz]; rfl), ext_one (by omega), cut_empty.1, cut_empty.2, if_neg (fun e => e.2.1 rfl)]
  · cases hcol : colon s (s.size - 1) 1 with
    | none =>
      have hb : cutB (s.extract 1 s.size) = { data := #[] } := cut_none h1 hcol
      rw [step_none (by rw [said_none hsz (.inr hc) hcol]; rfl), hb, if_neg (fun e => by have := e.2.2; rw [nok_empty] at this; cases this)]
    | some i =>
      obtain ⟨ha, hb⟩ := cut_some h1 hcol
      have ha : cutA (s.extract 1 s.size) = s.extract 1 i := ha
      have hb : cutB (s.extract 1 s.size) = s.extract (i + 1) s.size := hb
      rw [ha, hb]
      unfold doStep
      rw [said_move hsz hc hcol]
      simp only []
      generalize s.extract 1 i = x
      generalize s.extract (i + 1) s.size = y
      by_cases e : hasE l x = true ∧ ¬ x = y ∧ nam.nok y = true
      · rw [if_neg (by rw [has_nok hn e.1, e.2.2]; simp [e.2.1]), if_neg (by omega), if_neg (by rw [e.1]; simp), if_pos hc, if_pos e, putE_ins _ (drop_srt _ hl)]
      · rw [if_neg e]
        by_cases e1 : ((nam.nok y && !decide (x = y)) = false ∨ nam.nok x = false)
        · rw [if_pos e1]
        · rw [if_neg e1, if_neg (by omega), if_pos]
          cases e2 : hasE l x with
          | false => rfl
          | true =>
            exfalso
            apply e
            refine ⟨e2, fun hxy => e1 (.inl (by simp [hxy])), ?_⟩
            cases e3 : nam.nok y with
            | true => rfl
            | false => exact absurd (.inl (by simp [e3])) e1
theorem step_other {l : List Ent} {s : ByteArray} (h1 : ¬ byteAt s 0 = 43) (h2 : ¬ byteAt s 0 = 45) (h3 : ¬ byteAt s 0 = 62) : doStep l s = none := by
  refine step_none ?_
  by_cases hsz : s.size < 2
  · rw [said_short hsz]; rfl
  · rw [said_other hsz h2 (by omega)]; rfl

set_option maxHeartbeats 1000000 in
set_option maxRecDepth 100000 in
theorem implStep (b n : Nat) (l : List Ent) (s : ByteArray) (w : World) (hs : s.size ≤ 1048576) (hn : n ≤ 1000000000) (h : MapE w b n l) (hl : Nok l) (hg : GD w) :
    Calls Tryz.prog 102 #[.map (some b), .string s] w (StepR b n w l (doStep l s)) := by
  have hsr : Srt l := by obtain ⟨_, _, _, h⟩ := h; exact h
  have hsx : (s.extract 1 s.size).size ≤ 1048576 := Nat.le_trans (ext_size s 1 s.size) hs
  by_cases h0 : s = { data := #[] }
  · rw [show doStep l s = none from by rw [h0]; exact step_none (by rw [said_short (by decide)]; rfl)]
    have HM := Lib.hid h
    clear h hl hg hsr hsx
    subst h0
    go_enter Tryz.func102, Tryz.ntmps102
    go_wp2
    go_ret
    exact ⟨rfl, HM.out.mono (Nat.le_succ _), grown_but (Below.refl _ _) _⟩
  · have h1 : 0 < s.size := by
      rcases Nat.eq_zero_or_pos s.size with h | h
      · exact absurd (ByteArray.ext (Array.eq_empty_of_size_eq_zero h)) h0
      · exact h
    have hne := bytes_ne h0
    have hem : s.toList.isEmpty = false := by
      rw [ByteArray.toList_eq]
      cases e : s.data.toList with
      | nil => exact absurd (ByteArray.ext (Array.toList_inj.1 e)) h0
      | cons a r => rfl
    generalize hgen : doStep l s = o
    obtain ⟨c, hc⟩ : ∃ c, byteAt s 0 = c := ⟨_, rfl⟩
    have hb0 := deed.byte_at h1 hc
    have h1' : (1 : Int) ≤ (s.size : Int) := by omega
    clear h0
    by_cases c1 : c = 43
    · rw [step_plus hsr h1 (hc.trans c1)] at hgen
      have CA := (implAdd b n l _ w hsx hn h hg)
      rw [hgen] at CA
      replace CA := Lib.hid CA
      rw [c1] at hb0
      clear hc c1 h hl hg hsr hsx hgen
      go_enter Tryz.func102, Tryz.ntmps102
      go_wp2_with (fail)
      refine CA.out.mono ?_
      rintro e w1 ⟨rfl, hr⟩
      go_wp2
      go_ret
      exact ⟨rfl, hr⟩
    · by_cases c2 : c = 45
      · rw [step_minus hl h1 (hc.trans c2)] at hgen
        have CA := (implDrop b n l _ w hsx h hl hg.hand)
        rw [hgen] at CA
        replace CA := Lib.hid CA
        rw [c2] at hb0
        clear hc c1 c2 h hl hg hsr hsx hgen
        go_enter Tryz.func102, Tryz.ntmps102
        go_wp2_with (fail)
        refine CA.out.mono ?_
        rintro e w1 ⟨rfl, hr⟩
        go_wp2
        go_ret
        exact ⟨rfl, hr⟩
      · by_cases c3 : c = 62
        · rw [step_move hsr hl h1 (hc.trans c3)] at hgen
          have CA := (implMove b n l _ w hsx hn h hl hg)
          rw [hgen] at CA
          replace CA := Lib.hid CA
          rw [c3] at hb0
          clear hc c1 c2 c3 h hl hg hsr hsx hgen
          go_enter Tryz.func102, Tryz.ntmps102
          go_wp2_with (fail)
          refine CA.out.mono ?_
          rintro e w1 ⟨rfl, hr⟩
          go_wp2
          go_ret
          exact ⟨rfl, hr⟩
        · rw [step_other (by omega) (by omega) (by omega)] at hgen
          subst hgen
          have HM := Lib.hid h
          have g1 : ((c : Int) == 43) = false := by simp; omega
          have g2 : ((c : Int) == 45) = false := by simp; omega
          have g3 : ((c : Int) == 62) = false := by simp; omega
          clear hc c1 c2 c3 h hl hg hsr hsx
          go_enter Tryz.func102, Tryz.ntmps102
          go_wp2
          go_ret
          exact ⟨rfl, HM.out.mono (Nat.le_succ _), grown_but (Below.refl _ _) _⟩

end Go.Proofs.YtgcpgoehnjkpbaaGreatDoor.ik
