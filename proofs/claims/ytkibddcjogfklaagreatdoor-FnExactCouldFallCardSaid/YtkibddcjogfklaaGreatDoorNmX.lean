/-
  errors.As at impl's own error (a struct, by value), the library's own text walked: nothing for nil, and the struct for the struct.
-/
import Derived.Test.YtkibddcjogfklaaGreatDoorNameLaws
import Derived.LaidEql
import Derived.Stop.Asserts
import Derived.RowKitTokens
namespace Go.Proofs.YtkibddcjogfklaaGreatDoor.nam.as
open Go.RowKit Go.Extern.Stop Go.Stop Go.Extern
open kit

set_option maxRecDepth 1000000
/-- errors.As(nil, target). -/
theorem as_nil (t : Value) (w : World) :
    Calls Tryz.prog 83 #[.nilIface, t] w fun e w' => e = .returned (.bool false) ∧ w = w' := by
  go_enter Tryz.func83, Tryz.ntmps83
  go_wp2
  go_ret
  exact ⟨rfl, rfl⟩

/-- a type's handle -/
def hd (t : Nat) : Value := .pointer (some ⟨7, t, none⟩)
theorem hd_is (t : Nat) : Value.pointer (some ⟨7, t, none⟩) = hd t := rfl
theorem valueOfP (t : Addr) (w : World) : (ReflectliteValue.unpack (.iface 113 (.pointer (some t)))).run Tryz.prog w
    = .ok (.agg #[.pointer (some ⟨7, 113, none⟩), .pointer (some ⟨w.heap.size, 0, none⟩), .int .u64 150]) (w.alloc (.cells #[.pointer (some t)] 113)) := by kernel_rfl
theorem typeP (a : Addr) (w : World) : (ReflectliteValue.methodAny (ReflectliteValue.valueError "reflectlite.Value.Type" 0) (fun t _ _ _ => ReflectliteType.toType t) #[.agg #[.pointer (some ⟨7, 113, none⟩), .pointer (some a), .int .u64 150]]).run Tryz.prog w
    = .ok (.iface 141 (.agg #[.pointer (some ⟨7, 113, none⟩)])) w := by kernel_rfl
theorem methodKind (h : Value) (w : World) : (Go.method 334 141 (.agg #[h]) "Kind").run Tryz.prog w = .ok (168, h) w := by kernel_rfl
theorem kindP (w : World) : ((ReflectliteType.abiMethod fun t => (fun a : Nat => Value.int IntKind.u8 (a : Int)) <$> Rtype.kind t) #[.pointer (some ⟨7, 113, none⟩)]).run Tryz.prog w = .ok (.int .u8 22) w := by kernel_rfl
theorem kindE (w : World) : ((ReflectliteType.abiMethod fun t => (fun a : Nat => Value.int IntKind.u8 (a : Int)) <$> Rtype.kind t) #[.pointer (some ⟨7, 108, none⟩)]).run Tryz.prog w = .ok (.int .u8 25) w := by kernel_rfl

theorem rlm (z : Sem Value) (f : TypeId → Addr → Nat → Nat → Sem Value) (v : Value) :
    ReflectliteValue.method z f #[v] = (do match ← ReflectliteValue.parts v with | none => z | some (t, a, fl) => f t a fl (fl % 32)) := rfl
theorem partsP (a : Addr) (w : World) : (ReflectliteValue.parts (.agg #[.pointer (some ⟨7, 113, none⟩), .pointer (some a), .int .u64 150])).run Tryz.prog w = .ok (some (113, a, 150)) w := by kernel_rfl
/-- (Value).IsNil at the Value of a pointer that is not nil. -/
theorem isNilP (a p : Addr) (W : World) (ha : W.cell? a = some (.pointer (some p))) :
    (ReflectliteValue.method (ReflectliteValue.valueError "reflectlite.Value.IsNil" 0) ReflectliteValue.isNil #[.agg #[.pointer (some ⟨7, 113, none⟩), .pointer (some a), .int .u64 150]]).run Tryz.prog W = .ok (.bool false) W := by
  rw [rlm]
  simp only [Sem.run_bind, partsP, Result.andThen]
  simp [ReflectliteValue.isNil, loadVar, isAgg, underlying, Tryz.underlying113, ha, Result.andThen]

theorem methodElem (h : Value) (w : World) : (Go.method 334 141 (.agg #[h]) "Elem").run Tryz.prog w = .ok (178, .agg #[h]) w := by kernel_rfl
theorem methodImplements (h : Value) (w : World) : (Go.method 334 141 (.agg #[h]) "Implements").run Tryz.prog w = .ok (179, .agg #[h]) w := by kernel_rfl
theorem methodAssignableTo (h : Value) (w : World) : (Go.method 334 141 (.agg #[h]) "AssignableTo").run Tryz.prog w = .ok (176, .agg #[h]) w := by kernel_rfl
theorem elemP (w : World) : (ReflectliteType.method ReflectliteType.elem #[.agg #[.pointer (some ⟨7, 113, none⟩)]]).run Tryz.prog w = .ok (.iface 141 (.agg #[.pointer (some ⟨7, 108, none⟩)])) w := by kernel_rfl
theorem implementsE (w : World) : (ReflectliteType.relation "Implements" ReflectliteType.implements_ #[.agg #[.pointer (some ⟨7, 108, none⟩)], .iface 141 (.agg #[.pointer (some ⟨7, 111, none⟩)])]).run Tryz.prog w = .ok (.bool true) w := by kernel_rfl
theorem typeOfE (v : Value) (w : World) : (ReflectliteType.typeOf #[.iface 108 v]).run Tryz.prog w = .ok (.iface 141 (.agg #[.pointer (some ⟨7, 108, none⟩)])) w := by kernel_rfl
theorem assignableE (w : World) : (ReflectliteType.relation "AssignableTo" ReflectliteType.assignableTo #[.agg #[.pointer (some ⟨7, 108, none⟩)], .iface 141 (.agg #[.pointer (some ⟨7, 108, none⟩)])]).run Tryz.prog w = .ok (.bool true) w := by kernel_rfl
theorem valueOfE (k : Int) (w : World) : (ReflectliteValue.unpack (.iface 108 (.agg #[.int .i64 k]))).run Tryz.prog w
    = .ok (.agg #[.pointer (some ⟨7, 108, none⟩), .pointer (some ⟨w.heap.size, 0, none⟩), .int .u64 153]) (w.alloc (.cells #[.int .i64 k] 108)) := by kernel_rfl
theorem elemOfP (w : World) : (Rtype.elem? 113).run Tryz.prog w = .ok (some 108) w := by kernel_rfl
theorem mkE (p : Addr) (w : World) : (ReflectliteValue.mk 108 p ReflectliteValue.flagAddr).run Tryz.prog w = .ok (.agg #[.pointer (some ⟨7, 108, none⟩), .pointer (some p), .int .u64 409]) w := by kernel_rfl
/-- (Value).Elem at the Value of a pointer that is not nil: the Value of the variable that it points to, addressable. -/
theorem elemVP (a p : Addr) (W : World) (ha : W.cell? a = some (.pointer (some p))) :
    (ReflectliteValue.method (ReflectliteValue.valueError "reflectlite.Value.Elem" 0) ReflectliteValue.elem #[.agg #[.pointer (some ⟨7, 113, none⟩), .pointer (some a), .int .u64 150]]).run Tryz.prog W
      = .ok (.agg #[.pointer (some ⟨7, 108, none⟩), .pointer (some p), .int .u64 409]) W := by
  rw [rlm]
  simp only [Sem.run_bind, partsP, Result.andThen]
  simp [ReflectliteValue.elem, loadVar, isAgg, underlying, Tryz.underlying113, ha, Result.andThen, elemOfP, mkE]
theorem rls (v x : Value) : ReflectliteValue.set #[v, x] = (do
    let (some (dst, a, fl), some (src, b, _)) := (← ReflectliteValue.parts v, ← ReflectliteValue.parts x)
      | unsupported (.noEntry "extern/(internal/reflectlite.Value).Set.zeroValue")
    if fl / ReflectliteValue.flagAddr % 2 == 0 then unsupported (.noEntry "extern/(internal/reflectlite.Value).Set.unaddressable")
    let val ← loadVar src b
    if ← Rtype.directlyAssignable dst src then storeVar dst a val
    else if ← Rtype.implements dst src then
      if (← Rtype.kind src) == 20 then
        match val with
        | .nilIface => unsupported (.noEntry "extern/reflectlite: a nil value of one interface type handed on as a value of another")
        | _ => storeVar dst a val
      else storeVar dst a (.iface src val)
    else panicString ("reflectlite.Set: value of type " ++ (← Rtype.spelt src) ++ " is not assignable to type " ++ (← Rtype.spelt dst))
    pure (.tuple #[])) := rfl
theorem partsEa (a : Addr) (w : World) : (ReflectliteValue.parts (.agg #[.pointer (some ⟨7, 108, none⟩), .pointer (some a), .int .u64 409])).run Tryz.prog w = .ok (some (108, a, 409)) w := by kernel_rfl
theorem partsE (a : Addr) (w : World) : (ReflectliteValue.parts (.agg #[.pointer (some ⟨7, 108, none⟩), .pointer (some a), .int .u64 153])).run Tryz.prog w = .ok (some (108, a, 153)) w := by kernel_rfl
theorem directE (w : World) : (Rtype.directlyAssignable 108 108).run Tryz.prog w = .ok true w := by kernel_rfl

end Go.Proofs.YtkibddcjogfklaaGreatDoor.nam.as

namespace Go.Proofs.YtkibddcjogfklaaGreatDoor.nam.as
open Go.RowKit Go.Extern.Stop Go.Stop Go.Extern
open kit

set_option maxRecDepth 1000000
/-- (Value).Set: the struct's variable at 'ta' gets what the Value's own variable 'b' holds. -/
theorem setE (ta b : Addr) (k old : Int) (W : World) (hb : W.cell? b = some (.int .i64 k)) (ht : W.cell? ta = some (.int .i64 old)) (hf : W.frozen? ta = false) :
    (ReflectliteValue.set #[.agg #[.pointer (some ⟨7, 108, none⟩), .pointer (some ta), .int .u64 409], .agg #[.pointer (some ⟨7, 108, none⟩), .pointer (some b), .int .u64 153]]).run Tryz.prog W
      = .ok (.tuple #[]) (W.setCell ta (.int .i64 k)) := by
  have h0 : b.add 0 = b := by obtain ⟨x, y, z⟩ := b; cases z <;> rfl
  have hl : (loadCells b 1).run Tryz.prog W = .ok #[.int .i64 k] W := by
    have := run_loadCells_list (P := Tryz.prog) W b [.int .i64 k] (fun j v hj => by
      cases j with
      | zero =>
        rw [h0, hb]
        simpa using hj
      | succ j => simp at hj)
    simpa using this
  rw [rls]
  simp only [Sem.run_bind, partsEa, partsE, Result.andThen]
  simp [ReflectliteValue.flagAddr, loadVar, hl, Result.andThen, directE, storeVar, Value.cells, storeCells, Addr.add]
  rw [run_store Tryz.prog W ta _ _ (by rfl)]
  simp [ht, hf]

def et : Value := .iface 141 (.agg #[.pointer (some ⟨7, 111, none⟩)])
set_option maxHeartbeats 8000000 in
theorem as_hit (k old : Int) (t : Addr) (w : World) (hg : w.cell? ⟨0, 0, none⟩ = some (.iface 141 (.agg #[.pointer (some ⟨7, 111, none⟩)]))) (ht0 : w.cell? t = some (.int .i64 old)) (hf0 : w.frozen? t = false) :
    Calls Tryz.prog 83 #[.iface 108 (.agg #[.int .i64 k]), .iface 113 (.pointer (some t))] w fun ev w' => ev = .returned (.bool true) ∧ w' = ((((w.alloc (.cells #[.pointer (some t)] 113)).alloc (.cells #[.pointer (some ⟨7, 113, none⟩), .pointer (some ⟨w.heap.size, 0, none⟩), .int .u64 150] 123)).alloc (.cells #[.pointer (some ⟨7, 113, none⟩), .pointer (some ⟨w.heap.size, 0, none⟩), .int .u64 150] 123)).alloc (.cells #[.int .i64 k] 108)).setCell t (.int .i64 k) := by
  have h6 := @run_callFunc_extern Tryz.prog 93 _ (fun args => ReflectliteValue.unpack (args.getD 0 (.tuple #[]))) Tryz.func93 (by kernel_rfl) (by kernel_rfl) (by kernel_rfl) (by kernel_rfl)
  have h7 := @run_callFunc_extern Tryz.prog 94 _ (ReflectliteValue.methodAny (ReflectliteValue.valueError "reflectlite.Value.Type" 0) (fun t _ _ _ => ReflectliteType.toType t)) Tryz.func94 (by kernel_rfl) (by kernel_rfl) (by kernel_rfl) (by kernel_rfl)
  have h8 := @run_callFunc_extern Tryz.prog 95 _ (ReflectliteValue.method (ReflectliteValue.valueError "reflectlite.Value.IsNil" 0) ReflectliteValue.isNil) Tryz.func95 (by kernel_rfl) (by kernel_rfl) (by kernel_rfl) (by kernel_rfl)
  have h27 := @run_callFunc_extern Tryz.prog 168 _ (ReflectliteType.abiMethod fun t => do pure (.int .u8 (← Rtype.kind t))) Tryz.func168 (by kernel_rfl) (by kernel_rfl) (by kernel_rfl) (by kernel_rfl)
  have h37 := @run_callFunc_extern Tryz.prog 178 _ (ReflectliteType.method ReflectliteType.elem) Tryz.func178 (by kernel_rfl) (by kernel_rfl) (by kernel_rfl) (by kernel_rfl)
  have h38 := @run_callFunc_extern Tryz.prog 179 _ (ReflectliteType.relation "Implements" ReflectliteType.implements_) Tryz.func179 (by kernel_rfl) (by kernel_rfl) (by kernel_rfl) (by kernel_rfl)
  have h10 := @run_callFunc_extern Tryz.prog 105 _ ReflectliteType.typeOf Tryz.func105 (by kernel_rfl) (by kernel_rfl) (by kernel_rfl) (by kernel_rfl)
  have h35 := @run_callFunc_extern Tryz.prog 176 _ (ReflectliteType.relation "AssignableTo" ReflectliteType.assignableTo) Tryz.func176 (by kernel_rfl) (by kernel_rfl) (by kernel_rfl) (by kernel_rfl)
  have h11 := @run_callFunc_extern Tryz.prog 106 _ (ReflectliteValue.method (ReflectliteValue.valueError "reflectlite.Value.Elem" 0) ReflectliteValue.elem) Tryz.func106 (by kernel_rfl) (by kernel_rfl) (by kernel_rfl) (by kernel_rfl)
  have h12 := @run_callFunc_extern Tryz.prog 107 _ ReflectliteValue.set Tryz.func107 (by kernel_rfl) (by kernel_rfl) (by kernel_rfl) (by kernel_rfl)
  have tO := typeOfE
  have mA := methodAssignableTo
  have a25 := assignableE
  have v25 := valueOfE k
  have f6 := valueOfP
  have f7 := typeP
  have mK := methodKind
  have mE := methodElem
  have mI := methodImplements
  have k27 := kindP
  have k25 := kindE
  have e27 := elemP
  have i25 := implementsE
  have n8 := isNilP ⟨w.heap.size, 0, none⟩ t ((w.alloc (.cells #[.pointer (some t)] 113)).alloc (.cells #[.pointer (some ⟨7, 113, none⟩), .pointer (some ⟨w.heap.size, 0, none⟩), .int .u64 150] 123)) (by simp)
  have hlt : 0 < w.heap.size := by
    rcases Nat.eq_zero_or_pos w.heap.size with h0 | h
    · simp [World.cell?, h0] at hg
    · exact h
  have hg2 : ((w.alloc (.cells #[.pointer (some t)] 113)).alloc (.cells #[.pointer (some ⟨7, 113, none⟩), .pointer (some ⟨w.heap.size, 0, none⟩), .int .u64 150] 123)).cell? ⟨0, 0, none⟩ = some (.iface 141 (.agg #[.pointer (some ⟨7, 111, none⟩)])) := by
    rw [World.cell?_alloc_lt _ _ ⟨0, 0, none⟩ (by simp), World.cell?_alloc_lt _ _ ⟨0, 0, none⟩ hlt]; exact hg
  have htl : t.block < w.heap.size := by
    rcases Nat.lt_or_ge t.block w.heap.size with h | h
    · exact h
    · simp [World.cell?, Array.getElem?_eq_none h] at ht0
  have el := elemVP ⟨w.heap.size, 0, none⟩ t (((w.alloc (.cells #[.pointer (some t)] 113)).alloc (.cells #[.pointer (some ⟨7, 113, none⟩), .pointer (some ⟨w.heap.size, 0, none⟩), .int .u64 150] 123)).alloc (.cells #[.pointer (some ⟨7, 113, none⟩), .pointer (some ⟨w.heap.size, 0, none⟩), .int .u64 150] 123)) (by rw [World.cell?_alloc_lt _ _ ⟨w.heap.size, 0, none⟩ (by simp; omega)]; simp)
  have st := setE t ⟨w.heap.size + 1 + 1 + 1, 0, none⟩ k old ((((w.alloc (.cells #[.pointer (some t)] 113)).alloc (.cells #[.pointer (some ⟨7, 113, none⟩), .pointer (some ⟨w.heap.size, 0, none⟩), .int .u64 150] 123)).alloc (.cells #[.pointer (some ⟨7, 113, none⟩), .pointer (some ⟨w.heap.size, 0, none⟩), .int .u64 150] 123)).alloc (.cells #[.int .i64 k] 108))
    (by rw [World.cell?_alloc_at _ _ _ _ (by simp)]; rfl)
    (by rw [World.cell?_alloc_lt _ _ t (by simp; omega), World.cell?_alloc_lt _ _ t (by simp; omega), World.cell?_alloc_lt _ _ t (by simp; omega), World.cell?_alloc_lt _ _ t htl]; exact ht0)
    (by rw [World.frozen?_alloc_old _ _ t (by simp; omega), World.frozen?_alloc_old _ _ t (by simp; omega), World.frozen?_alloc_old _ _ t (by simp; omega), World.frozen?_alloc_old _ _ t (Nat.ne_of_lt htl)]; exact hf0)
  go_enter Tryz.func83, Tryz.ntmps83
  go_wp2
  refine wp_loop_rounds 1 ?_
  rw [rounds_succ]
  go_wp2
  go_ret
  exact ⟨rfl, rfl⟩

end Go.Proofs.YtkibddcjogfklaaGreatDoor.nam.as

namespace Go.Proofs.YtkibddcjogfklaaGreatDoor.nam
open Go.RowKit
open kit
open num

set_option maxRecDepth 1000000
/-- errors' own variable holds the handle of the type 'error' -/
def Hand (w : World) : Prop := w.cell? ⟨0, 0, none⟩ = some as.et
theorem hand_below {W W' : World} (h : Hand W) (hb : Below W.heap.size W W') : Hand W' := by
  unfold Hand at *
  rw [hb.cell (p := ⟨0, 0, none⟩) (World.block_lt_of_cell? W _ h)]
  exact h

theorem byteOk_any (c : Nat) (w : World) (hc : c < 256) :
    Calls Tryz.prog 97 #[.int .u8 (c : Int)] w fun e w' => e = .returned (.bool (okc c)) ∧ w' = w := by
  by_cases c1 : 97 ≤ c ∧ c ≤ 122
  · rw [okc_low c c1]
    obtain ⟨e1, e2⟩ := c1
    have e3 : (97 : Int) ≤ c := by omega
    have e4 : (c : Int) ≤ 122 := by omega
    go_enter Tryz.func97, Tryz.ntmps97
    go_wp2
    go_ret
    exact ⟨rfl, rfl⟩
  · by_cases c2 : 48 ≤ c ∧ c ≤ 57
    · rw [okc_dig c c2]
      obtain ⟨e1, e2⟩ := c2
      have e3 : (48 : Int) ≤ c := by omega
      have e4 : (c : Int) ≤ 57 := by omega
      have e5 : ¬ (97 : Int) ≤ c := by omega
      clear c1
      go_enter Tryz.func97, Tryz.ntmps97
      go_wp2
      go_ret
      exact ⟨rfl, rfl⟩
    · by_cases c3 : c = 46
      · subst c3
        rw [show okc 46 = true by decide]
        clear c1 c2 hc
        go_enter Tryz.func97, Tryz.ntmps97
        go_wp2
        go_ret
        exact ⟨rfl, rfl⟩
      · by_cases c4 : c = 45
        · subst c4
          rw [show okc 45 = true by decide]
          clear c1 c2 c3 hc
          go_enter Tryz.func97, Tryz.ntmps97
          go_wp2
          go_ret
          exact ⟨rfl, rfl⟩
        · rw [okc_no c c1 c2 c3 c4]
          have n3 : ((c : Int) == 46) = false := by rw [beq_eq_false_iff_ne]; omega
          have n4 : ((c : Int) == 45) = false := by rw [beq_eq_false_iff_ne]; omega
          have n1 : (decide ((97 : Int) ≤ c) && decide ((c : Int) ≤ 122)) = false := by
            rw [Bool.and_eq_false_iff, decide_eq_false_iff_not, decide_eq_false_iff_not]; omega
          have n2 : (decide ((48 : Int) ≤ c) && decide ((c : Int) ≤ 57)) = false := by
            rw [Bool.and_eq_false_iff, decide_eq_false_iff_not, decide_eq_false_iff_not]; omega
          by_cases d1 : (97 : Int) ≤ c
          · have d2 : ¬ (c : Int) ≤ 122 := by omega
            have d3 : (48 : Int) ≤ c := by omega
            have d4 : ¬ (c : Int) ≤ 57 := by omega
            clear c1 c2 c3 c4 n1 n2
            go_enter Tryz.func97, Tryz.ntmps97
            go_wp2
            go_ret
            exact ⟨rfl, rfl⟩
          · by_cases d3 : (48 : Int) ≤ c
            · have d4 : ¬ (c : Int) ≤ 57 := by omega
              clear c1 c2 c3 c4 n1 n2
              go_enter Tryz.func97, Tryz.ntmps97
              go_wp2
              go_ret
              exact ⟨rfl, rfl⟩
            · clear c1 c2 c3 c4 n1 n2
              go_enter Tryz.func97, Tryz.ntmps97
              go_wp2
              go_ret
              exact ⟨rfl, rfl⟩

def faultV (k : Int) : Value := .iface 108 (.agg #[.int .i64 k])
/-- what checkName answers: nil for a name that is right, else its own error, with a code that is not 0 -/
def PostK (b : ByteArray) (w : World) (e : Ending) (w' : World) : Prop :=
  ((nok b = true ∧ e = .returned .nilIface) ∨ (nok b = false ∧ ∃ k : Int, 0 < k ∧ e = .returned (faultV k))) ∧ w' = w
set_option maxHeartbeats 1000000 in
theorem check_any (b : ByteArray) (w : World) (hb : b.size ≤ 1048576) :
    Calls Tryz.prog 84 #[.string b] w (PostK b w) := by
  by_cases h0 : b.size = 0
  · have HN := Lib.hid (nok_size b (by omega))
    have hz : b = { data := #[] } := by
      apply ByteArray.ext
      exact Array.eq_empty_of_size_eq_zero h0
    subst hz
    go_enter Tryz.func84, Tryz.ntmps84
    go_wp2
    go_ret
    exact ⟨.inr ⟨HN.out, 1, by decide, rfl⟩, rfl⟩
  · have hemp := str_full (show 0 < b.size by omega)
    by_cases h20 : 20 < b.size
    · have HN := Lib.hid (nok_size b (by omega))
      have g20 : (20 : Int) < b.size := by omega
      go_enter Tryz.func84, Tryz.ntmps84
      go_wp2
      go_ret
      exact ⟨.inr ⟨HN.out, 2, by decide, rfl⟩, rfl⟩
    · have g20 : ¬ (20 : Int) < b.size := by omega
      go_enter Tryz.func84, Tryz.ntmps84
      go_wp2
      go_loopw [15] (fun i wr => ∃ j : Nat, j ≤ b.size ∧ i = .int .i64 j ∧ Hid (((nats b 0).take j).all okc = true) ∧ wr = w) (fun i _ => b.size - (intOf i).toNat)
      case atStart => exact ⟨0, Nat.zero_le _, rfl, Lib.hid rfl, rfl⟩
      case round =>
        obtain ⟨j, hj, rfl, ha, rfl⟩ := hrel
        by_cases hlt : j < b.size
        · have hc : b[j].toNat < 256 := b[j].toNat_lt
          have hget : (nats b 0)[j]? = some (b[j].toNat) := by rw [nats_get b 0 j (by omega)]; congr 2; congr 1; omega
          obtain ⟨c, hcc⟩ : ∃ c, b[j].toNat = c := ⟨_, rfl⟩
          rw [hcc] at hc hget
          have HN := Lib.hid (fun h => all_next _ j c hget ha.out h)
          have HZ := Lib.hid (fun h => nok_bad b j c hget h)
          clear hget ha
          have HB := Lib.hid (fun W => byteOk_any c W hc)
          cases hok : okc c with
          | true =>
            have HV := Lib.hid (HN.out hok)
            rw [hok] at HB
            clear hok
            go_wp2_with (go_at_call 97; refine (HB.out _).mono ?_; rintro e w' ⟨rfl, rfl⟩)
            go_roundw
            case rel => exact ⟨j + 1, by omega, by go_num, HV, trivial⟩
            case measure => simp [intOf]; omega
          | false =>
            have HE := Lib.hid (HZ.out hok)
            rw [hok] at HB
            clear hok
            go_wp2_with (go_at_call 97; refine (HB.out _).mono ?_; rintro e w' ⟨rfl, rfl⟩)
            go_ret
            exact ⟨.inr ⟨HE.out, 3, by decide, rfl⟩, rfl⟩
        · obtain rfl : j = b.size := by omega
          have HE := Lib.hid (nok_all b (by have := ha.out; rwa [List.take_of_length_le (by rw [nats_length]; omega)] at this) (by omega))
          clear ha
          go_wp2
          go_ret
          exact ⟨.inl ⟨HE.out, rfl⟩, rfl⟩

/-- what nameCode answers: 0 just for a name that is right -/
def PostN (b : ByteArray) (w : World) (e : Ending) (w' : World) : Prop :=
  (∃ k : Int, e = .returned (.int .i64 k) ∧ (k = 0 ↔ nok b = true)) ∧ Below w.heap.size w w'
theorem below_five (w : World) (o1 o2 o3 o4 o5 : Obj) : Below w.heap.size w (((((w.alloc o1).alloc o2).alloc o3).alloc o4).alloc o5) :=
  (((((Below.refl w.heap.size w).alloc (Nat.le_refl _) o1).alloc (by simp) o2).alloc (by simp; omega) o3).alloc (by simp; omega) o4).alloc (by simp; omega) o5
set_option maxHeartbeats 1000000 in
theorem code_any (b : ByteArray) (w : World) (hb : b.size ≤ 1048576) (h : Hand w) :
    Calls Tryz.prog 72 #[.string b] w (PostN b w) := by
  have HC := Lib.hid (fun W => check_any b W hb)
  have HH := Lib.hid h
  clear h
  go_enter Tryz.func72, Tryz.ntmps72
  go_wp2_with fail
  refine (HC.out _).mono ?_
  rintro e w1 ⟨⟨hn, rfl⟩ | ⟨hn, k, hk, rfl⟩, rfl⟩
  · have HN := Lib.hid hn
    clear hn
    go_wp2_with (go_at_call 83; refine (as.as_nil _ _).mono ?_; rintro e w2 ⟨rfl, rfl⟩)
    go_ret
    exact ⟨⟨0, rfl, by simp [HN.out]⟩, (Below.refl _ _).alloc (Nat.le_refl _) _⟩
  · have HN := Lib.hid hn
    have HK := Lib.hid hk
    clear hn hk
    unfold faultV
    have hH := hand_below HH.out ((Below.refl _ w).alloc (Nat.le_refl _) (.cells #[.int .i64 0] 108))
    have HA := Lib.hid (as.as_hit k 0 ⟨w.heap.size, 0, none⟩ (w.alloc (.cells #[.int .i64 0] 108)) hH (World.cell?_alloc_at _ _ _ _ (by rfl)) (World.frozen?_alloc_at _ _ _ _ rfl))
    clear hH
    go_wp2_with (go_at_call 83; refine HA.out.mono ?_; rintro e w2 ⟨rfl, rfl⟩)
    go_ret
    exact ⟨⟨k, rfl, by have := HK.out; simp [HN.out]; omega⟩, below_five w _ _ _ _ _⟩

theorem implOk_any (b : ByteArray) (w : World) (hb : b.size ≤ 1048576) (h : Hand w) :
    Calls Tryz.prog 61 #[.string b] w (PostR (.bool (nok b)) w) := by
  have HC := Lib.hid (code_any b w hb h)
  clear h
  go_enter Tryz.func61, Tryz.ntmps61
  go_wp2_with fail
  refine HC.out.mono ?_
  rintro e w1 ⟨⟨k, rfl, hk⟩, b1⟩
  obtain ⟨o, ho⟩ : ∃ o, nok b = o := ⟨_, rfl⟩
  have hk2 : (k == 0) = o := by
    rw [← ho]
    cases hn : nok b with
    | true => rw [beq_iff_eq]; exact hk.2 hn
    | false => rw [beq_eq_false_iff_ne]; intro e; rw [hk.1 e] at hn; cases hn
  have HO := Lib.hid ho
  clear ho hk HC
  go_wp2
  go_ret
  exact ⟨by rw [HO.out]; rfl, b1⟩

end Go.Proofs.YtkibddcjogfklaaGreatDoor.nam
