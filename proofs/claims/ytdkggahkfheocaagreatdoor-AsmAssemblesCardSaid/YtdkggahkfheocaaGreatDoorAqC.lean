/- Contracts of the laws of layer asm: errors.As at a fault, errors.Is at its number; told. No statement is proved here.; A region that draws its order: its first n operations keep a class of worlds and are walked once, in the order of the text; what comes behind them comes up in whatever order, and is left open. Plain lemmas; no statement is proved here.; Contracts of the laws of layer asm: told. No statement is proved here. -/
import Derived.Test.YtdkggahkfheocaaGreatDoorAqA
import Derived.WalkKit
import Derived.LaidEql
import Derived.Stop.Asserts
import Derived.RowKitTokens
import Derived.Test.YtdkggahkfheocaaGreatDoorCls
namespace Go.Proofs.YtdkggahkfheocaaGreatDoor
set_option maxRecDepth 100000
open Go.RowKit Go.Extern.Stop Go.Stop Go.Extern
set_option linter.unusedVariables false
set_option linter.unusedSimpArgs false

/-! Closed facts on the model's entries for internal/reflectlite, at this program's types. -/
theorem to_valPP (t : Addr) (w : World) : (ReflectliteValue.unpack (.iface 95 (.pointer (some t)))).run Tryz.prog w
    = .ok (.agg #[.pointer (some ⟨11, 95, none⟩), .pointer (some ⟨w.heap.size, 0, none⟩), .int .u64 150]) (w.alloc (.cells #[.pointer (some t)] 95)) := by kernel_rfl
theorem to_typePP (a : Addr) (w : World) : (ReflectliteValue.methodAny (ReflectliteValue.valueError "reflectlite.Value.Type" 0) (fun t _ _ _ => ReflectliteType.toType t) #[.agg #[.pointer (some ⟨11, 95, none⟩), .pointer (some a), .int .u64 150]]).run Tryz.prog w
    = .ok (.iface 170 (.agg #[.pointer (some ⟨11, 95, none⟩)])) w := by kernel_rfl
theorem to_mKind (h : Value) (w : World) : (Go.method 345 170 (.agg #[h]) "Kind").run Tryz.prog w = .ok (178, h) w := by kernel_rfl
theorem to_kindPP (w : World) : ((ReflectliteType.abiMethod fun t => (fun a : Nat => Value.int IntKind.u8 (a : Int)) <$> Rtype.kind t) #[.pointer (some ⟨11, 95, none⟩)]).run Tryz.prog w = .ok (.int .u8 22) w := by kernel_rfl
theorem to_kindP (w : World) : ((ReflectliteType.abiMethod fun t => (fun a : Nat => Value.int IntKind.u8 (a : Int)) <$> Rtype.kind t) #[.pointer (some ⟨11, 36, none⟩)]).run Tryz.prog w = .ok (.int .u8 22) w := by kernel_rfl
theorem to_rlm (z : Sem Value) (f : TypeId → Addr → Nat → Nat → Sem Value) (v : Value) :
    ReflectliteValue.method z f #[v] = (do match ← ReflectliteValue.parts v with | none => z | some (t, a, fl) => f t a fl (fl % 32)) := rfl
theorem to_partsPP (a : Addr) (w : World) : (ReflectliteValue.parts (.agg #[.pointer (some ⟨11, 95, none⟩), .pointer (some a), .int .u64 150])).run Tryz.prog w = .ok (some (95, a, 150)) w := by kernel_rfl
theorem to_isNil (a p : Addr) (W : World) (ha : W.cell? a = some (.pointer (some p))) :
    (ReflectliteValue.method (ReflectliteValue.valueError "reflectlite.Value.IsNil" 0) ReflectliteValue.isNil #[.agg #[.pointer (some ⟨11, 95, none⟩), .pointer (some a), .int .u64 150]]).run Tryz.prog W = .ok (.bool false) W := by
  rw [to_rlm]
  simp only [Sem.run_bind, to_partsPP, Result.andThen]
  simp [ReflectliteValue.isNil, loadVar, isAgg, underlying, Tryz.underlying95, ha, Result.andThen]
theorem to_mElem (h : Value) (w : World) : (Go.method 345 170 (.agg #[h]) "Elem").run Tryz.prog w = .ok (191, .agg #[h]) w := by kernel_rfl
theorem to_mImpl (h : Value) (w : World) : (Go.method 345 170 (.agg #[h]) "Implements").run Tryz.prog w = .ok (192, .agg #[h]) w := by kernel_rfl
theorem to_mAsgn (h : Value) (w : World) : (Go.method 345 170 (.agg #[h]) "AssignableTo").run Tryz.prog w = .ok (189, .agg #[h]) w := by kernel_rfl
theorem to_elem (w : World) : (ReflectliteType.method ReflectliteType.elem #[.agg #[.pointer (some ⟨11, 95, none⟩)]]).run Tryz.prog w = .ok (.iface 170 (.agg #[.pointer (some ⟨11, 36, none⟩)])) w := by kernel_rfl
theorem to_impl (w : World) : (ReflectliteType.relation "Implements" ReflectliteType.implements_ #[.agg #[.pointer (some ⟨11, 36, none⟩)], .iface 170 (.agg #[.pointer (some ⟨11, 33, none⟩)])]).run Tryz.prog w = .ok (.bool true) w := by kernel_rfl
theorem to_typeOf (v : Value) (w : World) : (ReflectliteType.typeOf #[.iface 36 v]).run Tryz.prog w = .ok (.iface 170 (.agg #[.pointer (some ⟨11, 36, none⟩)])) w := by kernel_rfl
theorem to_asgn (w : World) : (ReflectliteType.relation "AssignableTo" ReflectliteType.assignableTo #[.agg #[.pointer (some ⟨11, 36, none⟩)], .iface 170 (.agg #[.pointer (some ⟨11, 36, none⟩)])]).run Tryz.prog w = .ok (.bool true) w := by kernel_rfl
theorem to_valP (e : Addr) (w : World) : (ReflectliteValue.unpack (.iface 36 (.pointer (some e)))).run Tryz.prog w
    = .ok (.agg #[.pointer (some ⟨11, 36, none⟩), .pointer (some ⟨w.heap.size, 0, none⟩), .int .u64 150]) (w.alloc (.cells #[.pointer (some e)] 36)) := by kernel_rfl
theorem to_elemOf (w : World) : (Rtype.elem? 95).run Tryz.prog w = .ok (some 36) w := by kernel_rfl
theorem to_mk (p : Addr) (w : World) : (ReflectliteValue.mk 36 p ReflectliteValue.flagAddr).run Tryz.prog w = .ok (.agg #[.pointer (some ⟨11, 36, none⟩), .pointer (some p), .int .u64 406]) w := by kernel_rfl
theorem to_elemV (a p : Addr) (W : World) (ha : W.cell? a = some (.pointer (some p))) :
    (ReflectliteValue.method (ReflectliteValue.valueError "reflectlite.Value.Elem" 0) ReflectliteValue.elem #[.agg #[.pointer (some ⟨11, 95, none⟩), .pointer (some a), .int .u64 150]]).run Tryz.prog W
      = .ok (.agg #[.pointer (some ⟨11, 36, none⟩), .pointer (some p), .int .u64 406]) W := by
  rw [to_rlm]
  simp only [Sem.run_bind, to_partsPP, Result.andThen]
  simp [ReflectliteValue.elem, loadVar, isAgg, underlying, Tryz.underlying95, ha, Result.andThen, to_elemOf, to_mk]
theorem to_rls (v x : Value) : ReflectliteValue.set #[v, x] = (do
    let (some (dst, a, fl), some (src, b, _)) := (← ReflectliteValue.parts v, ← ReflectliteValue.parts x)
      | unsupported (.noEntry "extern/(internal/reflectlite.Value).Set.zeroValue")
    if fl / ReflectliteValue.flagAddr % 2 == 0 then unsupported (.noEntry "extern/(internal/reflectlite.Value).Set.unaddressable")
    let val ← loadVar src b
    if ← Rtype.directlyAssignable dst src then storeVar dst a val
    else if ← Rtype.implements dst src then
      if (← Rtype.kind src) == 20 then
        match val with
        | .nilIface => unsupported (.noEntry "extern/reflectlite: a nil value of one interface type handed on as a value of another")
        | _ => storeVar dst a val
      else storeVar dst a (.iface src val)
    else panicString ("reflectlite.Set: value of type " ++ (← Rtype.spelt src) ++ " is not assignable to type " ++ (← Rtype.spelt dst))
    pure (.tuple #[])) := rfl
theorem to_partsA (a : Addr) (w : World) : (ReflectliteValue.parts (.agg #[.pointer (some ⟨11, 36, none⟩), .pointer (some a), .int .u64 406])).run Tryz.prog w = .ok (some (36, a, 406)) w := by kernel_rfl
theorem to_partsP (a : Addr) (w : World) : (ReflectliteValue.parts (.agg #[.pointer (some ⟨11, 36, none⟩), .pointer (some a), .int .u64 150])).run Tryz.prog w = .ok (some (36, a, 150)) w := by kernel_rfl
theorem to_dir (w : World) : (Rtype.directlyAssignable 36 36).run Tryz.prog w = .ok true w := by kernel_rfl
theorem to_siz (w : World) : (sizeOf 36).run Tryz.prog w = .ok 1 w := by kernel_rfl
theorem to_set (ta b e : Addr) (old : Value) (W : World) (hb : W.cell? b = some (.pointer (some e))) (ht : W.cell? ta = some old) (hf : W.frozen? ta = false) :
    (ReflectliteValue.set #[.agg #[.pointer (some ⟨11, 36, none⟩), .pointer (some ta), .int .u64 406], .agg #[.pointer (some ⟨11, 36, none⟩), .pointer (some b), .int .u64 150]]).run Tryz.prog W
      = .ok (.tuple #[]) (W.setCell ta (.pointer (some e))) := by
  rw [to_rls]
  simp only [Sem.run_bind, to_partsA, to_partsP, Result.andThen]
  simp [ReflectliteValue.flagAddr, loadVar, isAgg, underlying, Tryz.underlying36, hb, Result.andThen, to_dir, storeVar, Value.cells, storeCells, Addr.add]
  rw [run_store Tryz.prog W ta _ _ (by rfl)]
  simp [ht, hf]

set_option maxHeartbeats 4000000 in
theorem as_fault (e t : Addr) (old : Value) (w : World) (hg : w.cell? ⟨2, 0, none⟩ = some (.iface 170 (.agg #[.pointer (some ⟨11, 33, none⟩)]))) (ht0 : w.cell? t = some old) (hf0 : w.frozen? t = false) :
    Calls Tryz.prog 54 #[.iface 36 (.pointer (some e)), .iface 95 (.pointer (some t))] w fun ev w' => ev = .returned (.bool true) ∧ w' = ((((w.alloc (.cells #[.pointer (some t)] 95)).alloc (.cells #[.pointer (some ⟨11, 95, none⟩), .pointer (some ⟨w.heap.size, 0, none⟩), .int .u64 150] 135)).alloc (.cells #[.pointer (some ⟨11, 95, none⟩), .pointer (some ⟨w.heap.size, 0, none⟩), .int .u64 150] 135)).alloc (.cells #[.pointer (some e)] 36)).setCell t (.pointer (some e)) := by
  have x1 := @run_callFunc_extern Tryz.prog 89 _ (fun args => ReflectliteValue.unpack (args.getD 0 (.tuple #[]))) Tryz.func89 (by kernel_rfl) (by kernel_rfl) (by kernel_rfl) (by kernel_rfl)
  have x2 := @run_callFunc_extern Tryz.prog 90 _ (ReflectliteValue.methodAny (ReflectliteValue.valueError "reflectlite.Value.Type" 0) (fun t _ _ _ => ReflectliteType.toType t)) Tryz.func90 (by kernel_rfl) (by kernel_rfl) (by kernel_rfl) (by kernel_rfl)
  have x3 := @run_callFunc_extern Tryz.prog 91 _ (ReflectliteValue.method (ReflectliteValue.valueError "reflectlite.Value.IsNil" 0) ReflectliteValue.isNil) Tryz.func91 (by kernel_rfl) (by kernel_rfl) (by kernel_rfl) (by kernel_rfl)
  have x4 := @run_callFunc_extern Tryz.prog 178 _ (ReflectliteType.abiMethod fun t => do pure (.int .u8 (← Rtype.kind t))) Tryz.func178 (by kernel_rfl) (by kernel_rfl) (by kernel_rfl) (by kernel_rfl)
  have x5 := @run_callFunc_extern Tryz.prog 191 _ (ReflectliteType.method ReflectliteType.elem) Tryz.func191 (by kernel_rfl) (by kernel_rfl) (by kernel_rfl) (by kernel_rfl)
  have x6 := @run_callFunc_extern Tryz.prog 192 _ (ReflectliteType.relation "Implements" ReflectliteType.implements_) Tryz.func192 (by kernel_rfl) (by kernel_rfl) (by kernel_rfl) (by kernel_rfl)
  have x7 := @run_callFunc_extern Tryz.prog 93 _ (ReflectliteType.typeOf) Tryz.func93 (by kernel_rfl) (by kernel_rfl) (by kernel_rfl) (by kernel_rfl)
  have x8 := @run_callFunc_extern Tryz.prog 189 _ (ReflectliteType.relation "AssignableTo" ReflectliteType.assignableTo) Tryz.func189 (by kernel_rfl) (by kernel_rfl) (by kernel_rfl) (by kernel_rfl)
  have x9 := @run_callFunc_extern Tryz.prog 123 _ (ReflectliteValue.method (ReflectliteValue.valueError "reflectlite.Value.Elem" 0) ReflectliteValue.elem) Tryz.func123 (by kernel_rfl) (by kernel_rfl) (by kernel_rfl) (by kernel_rfl)
  have x0 := @run_callFunc_extern Tryz.prog 124 _ (ReflectliteValue.set) Tryz.func124 (by kernel_rfl) (by kernel_rfl) (by kernel_rfl) (by kernel_rfl)
  have y0 := to_typeOf
  have y1 := to_mAsgn
  have y2 := to_asgn
  have y3 := to_valP
  have y4 := to_valPP
  have y5 := to_typePP
  have y6 := to_mKind
  have y7 := to_mElem
  have y8 := to_mImpl
  have y9 := to_kindPP
  have ya := to_kindP
  have yb := to_elem
  have yc := to_impl
  have yd := to_isNil ⟨w.heap.size, 0, none⟩ t ((w.alloc (.cells #[.pointer (some t)] 95)).alloc (.cells #[.pointer (some ⟨11, 95, none⟩), .pointer (some ⟨w.heap.size, 0, none⟩), .int .u64 150] 135)) (by simp)
  have hlt : 2 < w.heap.size := by
    rcases Nat.lt_or_ge 2 w.heap.size with h | h
    · exact h
    · simp [World.cell?, Array.getElem?_eq_none h] at hg
  have hg2 : ((w.alloc (.cells #[.pointer (some t)] 95)).alloc (.cells #[.pointer (some ⟨11, 95, none⟩), .pointer (some ⟨w.heap.size, 0, none⟩), .int .u64 150] 135)).cell? ⟨2, 0, none⟩ = some (.iface 170 (.agg #[.pointer (some ⟨11, 33, none⟩)])) := by
    rw [World.cell?_alloc_lt _ _ ⟨2, 0, none⟩ (by simp; omega), World.cell?_alloc_lt _ _ ⟨2, 0, none⟩ hlt]; exact hg
  have htl : t.block < w.heap.size := by
    rcases Nat.lt_or_ge t.block w.heap.size with h | h
    · exact h
    · simp [World.cell?, Array.getElem?_eq_none h] at ht0
  have el := to_elemV ⟨w.heap.size, 0, none⟩ t (((w.alloc (.cells #[.pointer (some t)] 95)).alloc (.cells #[.pointer (some ⟨11, 95, none⟩), .pointer (some ⟨w.heap.size, 0, none⟩), .int .u64 150] 135)).alloc (.cells #[.pointer (some ⟨11, 95, none⟩), .pointer (some ⟨w.heap.size, 0, none⟩), .int .u64 150] 135)) (by rw [World.cell?_alloc_lt _ _ ⟨w.heap.size, 0, none⟩ (by simp; omega)]; simp)
  have st := to_set t ⟨w.heap.size + 1 + 1 + 1, 0, none⟩ e old ((((w.alloc (.cells #[.pointer (some t)] 95)).alloc (.cells #[.pointer (some ⟨11, 95, none⟩), .pointer (some ⟨w.heap.size, 0, none⟩), .int .u64 150] 135)).alloc (.cells #[.pointer (some ⟨11, 95, none⟩), .pointer (some ⟨w.heap.size, 0, none⟩), .int .u64 150] 135)).alloc (.cells #[.pointer (some e)] 36))
    (by rw [World.cell?_alloc_at _ _ _ _ (by simp)]; rfl)
    (by rw [World.cell?_alloc_lt _ _ t (by simp; omega), World.cell?_alloc_lt _ _ t (by simp; omega), World.cell?_alloc_lt _ _ t (by simp; omega), World.cell?_alloc_lt _ _ t htl]; exact ht0)
    (by rw [World.frozen?_alloc_old _ _ t (by simp; omega), World.frozen?_alloc_old _ _ t (by simp; omega), World.frozen?_alloc_old _ _ t (by simp; omega), World.frozen?_alloc_old _ _ t (Nat.ne_of_lt htl)]; exact hf0)
  go_enter Tryz.func54, Tryz.ntmps54
  go_wp2
  refine wp_loop_rounds 1 ?_
  rw [rounds_succ]
  go_wp2
  go_ret
  exact ⟨rfl, rfl⟩

theorem any_rest {P : Program} (S : World → Prop) {Q : Exit → Act → World → Prop} {a : Act} {w : World} {l : List Oper} (k : Nat) {n : Nat} {s : Array Bool} (hn : (l.drop k).length = n) (hsel : Region.noSelect l.toArray = true) (hB : Region.lexFrom .any l.toArray n k s = true) (h0 : S w)
    (h : wpQuiet P l.toArray (fun w' => ∃ y : Wd S, w' = y.w) (fun a' => ∀ y : Wd S, Q .normal a' y.w) (l.drop k) a) : wpAny P .any l.toArray Q n s a w := by
  subst hn
  exact wpAny_of_quiet (Q := fun a' => ∀ y : Wd S, Q .normal a' y.w) (fun _ w' hw hq => by obtain ⟨y, rfl⟩ := hw; exact hq y) _ _ _ _ ⟨⟨w, h0⟩, rfl⟩ (wpAnyQ_lex hsel (l.drop k) k s a (fun j => by simp [List.getElem?_drop]) hB h)
theorem wpAny_listed' {P : Program} {md : Region.Mode} {ops : Array Oper} {Q : Exit → Act → World → Prop} {f : Nat} {s s' : Array Bool} {a : Act} {w : World} (hs : s = s') (h : wpAny P md ops Q f s' a w) : wpAny P md ops Q f s a w := hs ▸ h
/-! errors.Is at a number. -/
theorem to_typeOfN (v : Value) (w : World) : (ReflectliteType.typeOf #[.iface 28 v]).run Tryz.prog w = .ok (.iface 170 (.agg #[.pointer (some ⟨11, 28, none⟩)])) w := by kernel_rfl
theorem to_compN (w : World) : ((ReflectliteType.method fun t => do (Rtype.noPackHeld "Comparable" t); ((fun a => Value.bool a.comparable) <$> typeInfo t)) #[.agg #[.pointer (some ⟨11, 28, none⟩)]]).run Tryz.prog w = .ok (.bool true) w := by kernel_rfl
theorem to_mComp (v : Value) (w : World) : (Go.method 345 170 v "Comparable").run Tryz.prog w = .ok (190, v) w := by kernel_rfl
theorem to_noIs (v : Value) (xT : TypeId) (w : World) : (Instr.typeAssert (.iface 36 v) xT 182 true).run Tryz.prog w = .ok (.tuple #[.nilIface, .bool false]) w := run_typeAssert_lacksB Tryz.underlying182 (by kernel_rfl) (by kernel_rfl) v xT w
theorem to_hasUn (v : Value) (xT : TypeId) (w : World) : (Instr.typeAssert (.iface 36 v) xT 177 true).run Tryz.prog w = .ok (.tuple #[.iface 36 v, .bool true]) w := run_typeAssert_hasB Tryz.underlying177 (by kernel_rfl) v xT w
theorem to_mUn (v : Value) (w : World) : (Go.method 345 36 v "Unwrap").run Tryz.prog w = .ok (183, v) w := by kernel_rfl
theorem to_cmpN : (Tryz.prog.info? 28).map (·.comparable) = some true := by kernel_rfl
theorem to_eqN (c : Int) (w : World) : (binOp .eql 33 (.iface 28 (.int .i64 c)) (.iface 28 (.int .i64 c))).run Tryz.prog w = .ok (.bool true) w := by
  obtain ⟨i, hi, hcmp⟩ := Option.map_eq_some_iff.1 to_cmpN
  have h : ∀ d : Nat, (Op.equalIn (d + 2) 33 (.iface 28 (.int .i64 c)) (.iface 28 (.int .i64 c))).run Tryz.prog w = .ok true w := fun d => by
    simp [Op.equalIn, run_underlying Tryz.underlying33, run_underlying Tryz.underlying28, typeInfo, hi, hcmp]
  simp only [binOp]
  simp [Op.equal, Op.maxDepth, h 9998]
set_option maxHeartbeats 4000000 in
theorem is_fault (g : Nat) (c : Int) (w : World) (hc : w.cell? ⟨g, 0, none⟩ = some (.int .i64 c)) : Calls Tryz.prog 55 #[.iface 36 (.pointer (some ⟨g, 0, none⟩)), .iface 28 (.int .i64 c)] w fun e w' => e = .returned (.bool true) ∧ w' = w := by
  have h8 := @run_callFunc_extern Tryz.prog 93 _ Extern.ReflectliteType.typeOf Tryz.func93 (by kernel_rfl) (by kernel_rfl) (by kernel_rfl) (by kernel_rfl)
  have h32 := @run_callFunc_extern Tryz.prog 190 _ (Extern.ReflectliteType.method fun t => do Rtype.noPackHeld "Comparable" t; pure (.bool (← typeInfo t).comparable)) Tryz.func190 (by kernel_rfl) (by kernel_rfl) (by kernel_rfl) (by kernel_rfl)
  have y1 := to_typeOfN
  have y2 := to_compN
  have y3 := to_mComp
  have y4 := to_noIs
  have y5 := to_hasUn
  have y6 := to_mUn
  have y7 := to_eqN c
  have y8 := fun w => run_eql_iface_types (P := Tryz.prog) 36 28 (.pointer (some ⟨g, 0, none⟩)) (.int .i64 c) Tryz.underlying33 (by decide) w
  go_enter Tryz.func55, Tryz.ntmps55
  go_wp2
  refine wp_loop_rounds 2 ?_
  rw [rounds_succ]
  go_wp2
  rw [rounds_succ]
  go_wp2
  go_ret
  exact ⟨rfl, rfl⟩
end Go.Proofs.YtdkggahkfheocaaGreatDoor
namespace Go.Proofs.YtdkggahkfheocaaGreatDoor
open Go.RowKit
set_option linter.unusedVariables false

section
variable {P : Program} {ops : Array Oper} {md : Region.Mode} {C : World → Prop}

/-- Each operation behind n waits for one from n on. -/
def behindB (md : Region.Mode) (ops : Array Oper) (n : Nat) : Bool :=
  (List.range ops.size).all fun t => decide (t ≤ n) || (List.range ops.size).any fun u => decide (n ≤ u) && Region.waitsFor md ops t u
theorem tail_waits' {n : Nat} {listed : Array Bool} (hs : Region.sinkB md ops n = true) (hc : behindB md ops n = true) (hn : n < ops.size) (inv : HeadInv md ops n listed) :
    ∀ (d i : Nat), n - i = d → i < n → listed.getD i true = false → ∀ t, n ≤ t → t ∉ Region.ready md ops listed := by
  intro d
  induction d using Nat.strongRecOn with
  | _ d ih =>
    intro i hd hi hun t ht hr
    obtain ⟨_, ot, hot, hall⟩ := mem_ready.1 hr
    have htlt : t < ops.size := (Array.getElem?_eq_some_iff.1 hot).1
    by_cases htn : t = n
    · subst htn
      have h1 := List.all_eq_true.1 hs i (List.mem_range.2 hi)
      obtain ⟨j, hj, hj2⟩ := List.any_eq_true.1 h1
      simp only [Bool.and_eq_true, decide_eq_true_eq] at hj2
      obtain ⟨oj, hoj, e, he, hb, hon⟩ := Region.waitsFor_spec hj2.2
      have hjle : j ≤ t := by have := List.mem_range.1 hj; omega
      by_cases hjt : j = t
      · subst hjt
        have : oj = ot := Option.some.inj (hoj.symm.trans hot)
        subst this
        have h2 := hall e he hb
        rw [hon, getD_both hun] at h2
        cases h2
      · cases hl : listed.getD j false with
        | true =>
          have h2 := inv.closed j oj hoj hl e he hb
          rw [hon, getD_both hun] at h2
          cases h2
        | false =>
          have hjs : j < listed.size := by rw [inv.size]; omega
          exact ih (t - j) (by omega) j rfl (by omega) (getD_in hjs hl) t (Nat.le_refl _) hr
    · have h1 := List.all_eq_true.1 hc t (List.mem_range.2 htlt)
      simp only [Bool.or_eq_true, decide_eq_true_eq] at h1
      rcases h1 with h1 | h1
      · omega
      · obtain ⟨u, hu, hu2⟩ := List.any_eq_true.1 h1
        simp only [Bool.and_eq_true, decide_eq_true_eq] at hu2
        obtain ⟨o', ho', e, he, hb, hon⟩ := Region.waitsFor_spec hu2.2
        have : o' = ot := Option.some.inj (ho'.symm.trans hot)
        subst this
        have h2 := hall e he hb
        rw [hon, getD_both (inv.tail u (by omega) (by have := List.mem_range.1 hu; omega))] at h2
        cases h2

theorem anyQL_first' {n i : Nat} {oi : Oper} {v : Value} {L : Array Bool → Act → Prop} (hi : ops[i]? = some oi) (hsel : ∀ (j : Nat) (o : Oper) cs b, ops[j]? = some o → o.op ≠ .select cs b)
    (hs : Region.sinkB md ops n = true) (hc : behindB md ops n = true) (hn : n < ops.size) (hin : i < n) (hdone : ∀ s a, L s a → ∀ j ∈ Region.ready md ops s, n ≤ j) :
    ∀ (f : Nat) (s : Array Bool) (a : Act), HeadInv md ops n s →
      (∀ j oj, ops[j]? = some oj → j ≠ i → s.getD j true = false → (∀ e ∈ oj.after, Region.binds md e = true → e.on ≠ i) → oi.apart ops oj = true) →
      i ∈ Region.ready md ops s → YieldsIn P ops C oi v a → anyQL P md ops C n L f (s.setIfInBounds i true) (a.put oi.dst v) → anyQL P md ops C n L (f + 1) s a := by
  intro f
  induction f with
  | zero =>
    intro s a inv _ hr hy H
    refine ⟨fun h => (by rw [h] at hr; cases hr), fun j hj => ?_⟩
    have hjn : j < n := Nat.lt_of_not_le fun h => tail_waits' hs hc hn inv _ i rfl hin (mem_ready.1 hr).1 j h hj
    refine ⟨hjn, ?_⟩
    by_cases hji : j = i
    · subst hji; exact hy.qOp hi H
    · have := hdone _ _ H j (ready_mono hj hji)
      omega
  | succ f ih =>
    intro s a inv hfree hr hy H
    have hun := (mem_ready.1 hr).1
    refine ⟨fun h => (by rw [h] at hr; cases hr), fun j hj => ?_⟩
    have hjn : j < n := Nat.lt_of_not_le fun h => tail_waits' hs hc hn inv _ i rfl hin hun j h hj
    refine ⟨hjn, ?_⟩
    by_cases hji : j = i
    · subst hji; exact hy.qOp hi H
    · obtain ⟨hjun, oj, hoj, hall⟩ := mem_ready.1 hj
      have hnot : ∀ e ∈ oj.after, Region.binds md e = true → e.on ≠ i := fun e he hb heq => by
        have h1 := hall e he hb
        rw [heq, getD_both hun] at h1
        cases h1
      refine qOp_mono (fun a' h3 => ih (s.setIfInBounds j true) a' (inv.set hj hjn) (fun k ok hk hki hku hno => hfree k ok hk hki ?_ hno) (ready_mono hr (Ne.symm hji)) h3.1 ?_)
        (qOp_put hoj (hfree j oj hoj hji hjun hnot) (fun cs b => hsel i oi cs b hi) (fun cs b => hsel j oj cs b hoj) hy ((H.2 j (ready_mono hj hji)).2))
      · by_cases hjk : j = k
        · subst hjk; exact hjun
        · rw [getD_set_ne true hjk] at hku; exact hku
      · rw [Array.setIfInBounds_comm _ _ hji]
        exact h3.2

/-- What has come up behind so many operations from the k-th on. -/
def doneAt : Nat → Nat → Array Bool → Array Bool
  | 0, _, s => s
  | f + 1, k, s => doneAt f (k + 1) (s.setIfInBounds k true)
def anyHead (md : Region.Mode) (ops : Array Oper) (n : Nat) : Nat → Nat → Array Bool → Bool
  | 0, _, s => (Region.ready md ops s).all fun j => decide (n ≤ j)
  | f + 1, k, s => (Region.ready md ops s).contains k && Region.free md ops s k && anyHead md ops n f (k + 1) (s.setIfInBounds k true)
theorem anyQL_lex' {n : Nat} {T : Act → Prop} (hsel : Region.noSelect ops = true) (hs : Region.sinkB md ops n = true) (hc : behindB md ops n = true) (hn : n < ops.size) :
    ∀ (l : List Oper) (k : Nat) (s : Array Bool) (a : Act), (∀ j, j < l.length → l[j]? = ops[k + j]?) → k + l.length = n → HeadInv md ops n s →
    anyHead md ops n l.length k s = true → wpQuiet P ops C T l a → anyQL P md ops C n (fun s' a' => ((Region.ready md ops s').all fun j => decide (n ≤ j)) = true ∧ s' = doneAt l.length k s ∧ T a') l.length s a
  | [], k, s, a, _, hk, _, hB, h => ⟨by simpa [anyHead] using hB, rfl, h⟩
  | o :: l, k, s, a, hl, hk, inv, hB, h => by
    have h0 : ops[k]? = some o := by simpa using (hl 0 (by simp)).symm
    simp only [List.length_cons, anyHead, Bool.and_eq_true] at hB
    simp only [List.length_cons] at hk
    have hr : k ∈ Region.ready md ops s := by simpa using hB.1.1
    obtain ⟨v, hy, hK⟩ := yieldsIn_of_qOp h0 (show qOp P ops C k (wpQuiet P ops C T l) a by unfold qOp; simp only [h0]; exact h)
    exact anyQL_first' h0 (Region.noSelect_spec hsel) hs hc hn (by omega) (fun s' a' hL j hj => by have := List.all_eq_true.1 hL.1 j hj; simpa using this) l.length s a inv (Region.free_spec h0 hB.1.2) hr hy
      (anyQL_lex' hsel hs hc hn l (k + 1) _ _ (fun j hj => by have := hl (j + 1) (by simp; omega); simpa [Nat.add_assoc, Nat.add_comm 1 j] using this) (by omega) (inv.set hr (by omega)) hB.2 hK)
end
def anyB (ops : Array Oper) (n : Nat) : Bool :=
  Region.noSelect ops && decide (n < ops.size) && Region.sinkB .any ops n && behindB .any ops n && anyHead .any ops n n 0 (Array.replicate ops.size false)
/-- Such a region. -/
theorem region_cls_any {P : Program} (S : World → Prop) {id : Nat} {Q : Exit → Act → World → Prop} {a : Act} {w : World} {l : List Oper} (n : Nat) (hm : P.follows .mixedOrders = true) (hB : anyB l.toArray n = true) (h0 : S w.drew)
    (h : wpQuiet P l.toArray (fun w' => ∃ y : Wd S, w' = y.w) (fun a' => ∀ y : Wd S, wpAny P .any l.toArray Q (l.length - n) (doneAt n 0 (Array.replicate l.toArray.size false)) a' y.w) (l.take n) a) : (Code.region id l.toArray true).wp P Q a w := by
  simp only [anyB, Bool.and_eq_true, decide_eq_true_eq] at hB
  obtain ⟨⟨⟨⟨hsel, hn⟩, hs⟩, hc⟩, hlex⟩ := hB
  have hn' : n < l.length := by simpa using hn
  have htl : (l.take n).length = n := by simp; omega
  have inv0 : HeadInv .any l.toArray n (Array.replicate l.toArray.size false) :=
    ⟨by simp, fun j oj _ hl => (by rw [getD_replicate_false] at hl; cases hl), fun t _ ht => getD_in (by simpa using ht) (getD_replicate_false _ _)⟩
  have H := anyQL_lex' (md := .any) hsel hs hc hn (l.take n) 0 _ a (fun j hj => by
    have hj' : j < n := by rw [htl] at hj; exact hj
    simp [hj']) (by simpa using htl) inv0 (by rw [htl]; exact hlex) h
  refine wp_region_any hm ?_
  have := anyQL_out (Q := Q) (g := l.length - n) (fun s' a' w' hw' hL => by
    obtain ⟨y, rfl⟩ := hw'
    obtain ⟨_, rfl, hT⟩ := hL
    rw [htl]
    exact hT y) _ _ _ w.drew ⟨⟨w.drew, h0⟩, rfl⟩ H
  rw [htl, show n + (l.length - n) = l.toArray.size by simp; omega] at this
  exact this
end Go.Proofs.YtdkggahkfheocaaGreatDoor
namespace Go.Proofs.YtdkggahkfheocaaGreatDoor
set_option maxRecDepth 100000
open Go.RowKit Go.Extern.Stop Go.Stop Go.Extern
set_option linter.unusedVariables false
set_option linter.unusedSimpArgs false


theorem told_nil (W : World) : Calls Tryz.prog 20 #[.nilIface, .pointer none] W fun e w' => e = .returned (.bool true) ∧ Below W.heap.size W w' := by
  go_enter Tryz.func20, Tryz.ntmps20
  go_wp2
  go_ret
  exact ⟨rfl, Below.refl _ _⟩
set_option maxHeartbeats 4000000 in
theorem told_fault (c n : Int) (g g' : Nat) (W : World) (hg : W.cell? ⟨2, 0, none⟩ = some (.iface 170 (.agg #[.pointer (some ⟨11, 33, none⟩)])))
    (h1 : W.cell? ⟨g, 0, none⟩ = some (.int .i64 c)) (h2 : W.cell? ⟨g, 1, none⟩ = some (.int .i64 n)) (h3 : W.cell? ⟨g', 0, none⟩ = some (.int .i64 c)) (h4 : W.cell? ⟨g', 1, none⟩ = some (.int .i64 n)) :
    Calls Tryz.prog 20 #[.iface 36 (.pointer (some ⟨g, 0, none⟩)), .pointer (some ⟨g', 0, none⟩)] W fun e w' => e = .returned (.bool true) ∧ Below W.heap.size W w' := by
  have lt : ∀ {b j : Nat} {v : Value}, W.cell? ⟨b, j, none⟩ = some v → b < W.heap.size := fun {b j v} h => by
    rcases Nat.lt_or_ge b W.heap.size with hlt | hge
    · exact hlt
    · simp [World.cell?, Array.getElem?_eq_none hge] at h
  have l0 := lt hg
  have l1 := lt h1
  have l3 := lt h3
  obtain ⟨gt, hgt⟩ : ∃ gt, gt = W.heap.size := ⟨_, rfl⟩
  have K0 : KR W [⟨gt, [.pointer none]⟩] (W.alloc (.cells #[.pointer none] 36)) := by rw [hgt]; exact (KR.start (W := W)).push [.pointer none] 36
  have hAs : ∀ u, KR W [⟨gt, [.pointer none]⟩] u → Calls Tryz.prog 54 #[.iface 36 (.pointer (some ⟨g, 0, none⟩)), .iface 95 (.pointer (some ⟨gt, 0, none⟩))] u fun ev u' => ev = .returned (.bool true) ∧ KR W [⟨gt, [.pointer (some ⟨g, 0, none⟩)]⟩] u' := fun u K =>
    (as_fault ⟨g, 0, none⟩ ⟨gt, 0, none⟩ (.pointer none) u ((K.bl.cell (p := ⟨2, 0, none⟩) l0).trans hg) (K.cell _ (List.mem_cons_self ..) rfl) (K.soft (List.mem_cons_self ..) _)).mono fun ev u' h => ⟨h.1, by
      rw [h.2]
      exact ((((K.alloc _).alloc _).alloc _).alloc _).set (by omega) (fun x hx => by cases hx) 0 (.pointer (some ⟨g, 0, none⟩)) (by simp)⟩
  obtain ⟨S, hS0⟩ : ∃ S : World → Prop, S = KR W [⟨gt, [.pointer (some ⟨g, 0, none⟩)]⟩] := ⟨_, rfl⟩
  rw [← hS0] at hAs
  have hKS : ∀ u, S u → KR W [⟨gt, [.pointer (some ⟨g, 0, none⟩)]⟩] u := fun u h => by rw [← hS0]; exact h
  have e0 : ∀ y : Wd S, y.w.cell? ⟨gt, 0, none⟩ = some (.pointer (some ⟨g, 0, none⟩)) := fun y => (hKS _ y.h).cell _ (List.mem_cons_self ..) rfl
  have e1 : ∀ y : Wd S, y.w.cell? ⟨g, 0, none⟩ = some (.int .i64 c) := fun y => ((hKS _ y.h).bl.cell (p := ⟨g, 0, none⟩) l1).trans h1
  have e2 : ∀ y : Wd S, y.w.cell? ⟨g, 1, none⟩ = some (.int .i64 n) := fun y => ((hKS _ y.h).bl.cell (p := ⟨g, 1, none⟩) l1).trans h2
  have e3 : ∀ y : Wd S, y.w.cell? ⟨g', 0, none⟩ = some (.int .i64 c) := fun y => ((hKS _ y.h).bl.cell (p := ⟨g', 0, none⟩) l3).trans h3
  have e4 : ∀ y : Wd S, y.w.cell? ⟨g', 1, none⟩ = some (.int .i64 n) := fun y => ((hKS _ y.h).bl.cell (p := ⟨g', 1, none⟩) l3).trans h4
  have qI := Lib.hid (cls_call (S := S) fun u hu => (is_fault g c u (e1 ⟨u, hu⟩)).mono fun e u' k => (⟨k.1, by rw [k.2]; exact hu⟩ : _ ∧ S u'))
  have hcc : (c == c) = true := by simp
  have hnn : (n == n) = true := by simp
  have hund : undef = Value.tuple #[] := rfl
  obtain ⟨w1, hw1⟩ : ∃ w1, w1 = W.alloc (.cells #[.pointer none] 36) := ⟨_, rfl⟩
  rw [← hw1] at K0
  replace hAs := Lib.hid hAs
  replace hw1 := Lib.hid hw1
  clear hS0 lt l0 l1 l3 h1 h2 h3 h4 hg
  go_enter Tryz.func20, Tryz.ntmps20
  go_upto_region 4 with (fail)
  rw [← hw1.out, ← hgt]
  clear hw1 hgt
  refine wp_region_any (by kernel_rfl) ?_
  have K1 : KR W [⟨gt, [.pointer none]⟩] { w1 with drawn := w1.drawn + 1 } := K0.below (Below.refl _ _).drew
  generalize ({ w1 with drawn := w1.drawn + 1 } : World) = w2 at *
  clear K0
  refine wpAny_listed' (s' := #[false, false, false, false, false, false, false, false, false, false, false, false, false, false, false, false, false, false, false, false, false, false, false, false, false, false, false, false, false, false, false, false, false, false, false]) (by kernel_rfl) ?_
  refine wpAny_ready (rs := [0, 1]) (by kernel_rfl) (by simp) (AllReady.cons rfl (fun K hK => ?_) (AllReady.cons rfl (fun K hK => ?_) AllReady.nil))
  · skip
    replace hK := Lib.hid hK
    go_simp
    refine hK.out _ _ ?_
    clear hK K
    try simp only [Act.put, List.getElem_toArray, List.getElem_cons_zero, List.getElem_cons_succ, List.setIfInBounds_toArray, List.set_cons_zero, List.set_cons_succ]
    refine wpAny_ready (rs := [1]) (by kernel_rfl) (by simp) (AllReady.cons rfl (fun K hK => ?_) AllReady.nil)
    replace hK := Lib.hid hK
    go_simp
    refine hK.out _ _ ?_
    clear hK K
    try simp only [Act.put, List.getElem_toArray, List.getElem_cons_zero, List.getElem_cons_succ, List.setIfInBounds_toArray, List.set_cons_zero, List.set_cons_succ]
    refine wpAny_ready (rs := [2]) (by kernel_rfl) (by simp) (AllReady.cons rfl (fun K hK => ?_) AllReady.nil)
    replace hK := Lib.hid hK
    go_simp
    refine (hAs.out _ K1).mono ?_
    rintro ee Z1 ⟨rfl, K5⟩
    go_simp
    refine hK.out _ _ ?_
    clear hK K
    try simp only [Act.put, List.getElem_toArray, List.getElem_cons_zero, List.getElem_cons_succ, List.setIfInBounds_toArray, List.set_cons_zero, List.set_cons_succ]
    refine wpAny_ready (rs := [3]) (by kernel_rfl) (by simp) (AllReady.cons rfl (fun K hK => ?_) AllReady.nil)
    replace hK := Lib.hid hK
    go_simp
    refine hK.out _ _ ?_
    clear hK K
    try simp only [Act.put, List.getElem_toArray, List.getElem_cons_zero, List.getElem_cons_succ, List.setIfInBounds_toArray, List.set_cons_zero, List.set_cons_succ]
    refine any_rest S 4 (n := 31) rfl (by kernel_rfl) (by kernel_rfl) K5 ?_
    simp only [List.drop_succ_cons, List.drop_zero]
    repeat (first
      | go_big_quiet_skip
      | (go_big_quiet_want
         go_big_quiet_op
         first
         | go_big_quiet_on
         | (apply Exists.intro
            refine ⟨fun y => ?_, ?_⟩
            · first | exact rfl | with_reducible exact qI.out y
            go_big_quiet_on)))
    refine wpQuiet_nil ?_
    intro y
    have hy := Lib.hid (hKS _ y.h).bl
    clear e0 e1 e2 e3 e4 qI K5
    go_wp2
    go_ret
    exact ⟨rfl, hy.out⟩
  · skip
    replace hK := Lib.hid hK
    go_simp
    refine hK.out _ _ ?_
    clear hK K
    try simp only [Act.put, List.getElem_toArray, List.getElem_cons_zero, List.getElem_cons_succ, List.setIfInBounds_toArray, List.set_cons_zero, List.set_cons_succ]
    refine wpAny_ready (rs := [0]) (by kernel_rfl) (by simp) (AllReady.cons rfl (fun K hK => ?_) AllReady.nil)
    replace hK := Lib.hid hK
    go_simp
    refine hK.out _ _ ?_
    clear hK K
    try simp only [Act.put, List.getElem_toArray, List.getElem_cons_zero, List.getElem_cons_succ, List.setIfInBounds_toArray, List.set_cons_zero, List.set_cons_succ]
    refine wpAny_ready (rs := [2]) (by kernel_rfl) (by simp) (AllReady.cons rfl (fun K hK => ?_) AllReady.nil)
    replace hK := Lib.hid hK
    go_simp
    refine (hAs.out _ K1).mono ?_
    rintro ee Z1 ⟨rfl, K5⟩
    go_simp
    refine hK.out _ _ ?_
    clear hK K
    try simp only [Act.put, List.getElem_toArray, List.getElem_cons_zero, List.getElem_cons_succ, List.setIfInBounds_toArray, List.set_cons_zero, List.set_cons_succ]
    refine wpAny_ready (rs := [3]) (by kernel_rfl) (by simp) (AllReady.cons rfl (fun K hK => ?_) AllReady.nil)
    replace hK := Lib.hid hK
    go_simp
    refine hK.out _ _ ?_
    clear hK K
    try simp only [Act.put, List.getElem_toArray, List.getElem_cons_zero, List.getElem_cons_succ, List.setIfInBounds_toArray, List.set_cons_zero, List.set_cons_succ]
    refine any_rest S 4 (n := 31) rfl (by kernel_rfl) (by kernel_rfl) K5 ?_
    simp only [List.drop_succ_cons, List.drop_zero]
    repeat (first
      | go_big_quiet_skip
      | (go_big_quiet_want
         go_big_quiet_op
         first
         | go_big_quiet_on
         | (apply Exists.intro
            refine ⟨fun y => ?_, ?_⟩
            · first | exact rfl | with_reducible exact qI.out y
            go_big_quiet_on)))
    refine wpQuiet_nil ?_
    intro y
    have hy := Lib.hid (hKS _ y.h).bl
    clear e0 e1 e2 e3 e4 qI K5
    go_wp2
    go_ret
    exact ⟨rfl, hy.out⟩
end Go.Proofs.YtdkggahkfheocaaGreatDoor
