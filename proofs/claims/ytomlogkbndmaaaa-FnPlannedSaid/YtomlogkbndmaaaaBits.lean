/-
  Maps as arrays of 64 bytes: what the methods of lineBits return; nothing that was there is written.
-/
import Derived.Test.YtomlogkbndmaaaaRows
import Derived.WalkKit
import Derived.WalkSpells
import Derived.Handy
import Derived.Below
import Derived.Deep.WholeRow
import Derived.Deep.Draws
import Derived.Laws.IdiomStrings
namespace Go.Proofs.Ytomlogkbndmaaaa.lb
open Go.RowKit
def lst (l : List UInt8) : List Value := l.map (fun b => Value.int .u8 (b.toNat : Int))
abbrev cs (l : List UInt8) : Array Value := (lst l).toArray
theorem cs_size (l : List UInt8) : (cs l).size = l.length := by simp [cs, lst]
theorem cs_get (l : List UInt8) (i : Nat) (h : i < l.length) : (cs l)[i]? = some (.int .u8 (l[i].toNat : Int)) := by
  simp [cs, lst, h]
theorem cs_set (l : List UInt8) (i : Nat) (b : UInt8) : (cs l).setIfInBounds i (.int .u8 (b.toNat : Int)) = cs (l.set i b) := by
  simp [cs, lst, List.map_set]
/-- The block g holds these bytes as an array. -/
def Row (w : World) (g : Nat) (l : List UInt8) : Prop := w.heap[g]? = some (.cells (cs l) 63)
theorem Row.cell {w : World} {g : Nat} {l : List UInt8} (h : Row w g l) (i : Nat) (hi : i < l.length) : w.cell? ⟨g, i, none⟩ = some (.int .u8 (l[i].toNat : Int)) := by
  rw [cell_of_row w g i _ _ _ h, cs_get l i hi]
theorem Row.frozen {w : World} {g : Nat} {l : List UInt8} (h : Row w g l) (i : Nat) : w.frozen? ⟨g, i, none⟩ = false := frozen_of_row w g i _ _ h
theorem Row.set {w : World} {g : Nat} {l : List UInt8} (h : Row w g l) (i : Nat) (b : UInt8) (x : Value) (hx : x = .int .u8 (b.toNat : Int)) : Row (w.setCell ⟨g, i, none⟩ x) g (l.set i b) := by
  subst hx
  unfold Row
  rw [heap_setCell_same w g i _ _ _ h, cs_set]
theorem Row.other {w : World} {g : Nat} {l : List UInt8} (h : Row w g l) {a : Addr} (x : Value) (ha : g ≠ a.block) : Row (w.setCell a x) g l := by
  unfold Row
  rw [heap_setCell_other _ _ _ _ ha]; exact h
theorem Row.below {w w' : World} {g B : Nat} {l : List UInt8} (h : Row w g l) (hb : Below B w w') (hg : g < B) : Row w' g l := by
  unfold Row; rw [hb.block g hg]; exact h
theorem info56 : (Try.prog.info? 63).map (·.size) = some 64 := by kernel_rfl
theorem Row.load {w : World} {g : Nat} {l : List UInt8} (h : Row w g l) (hl : l.length = 64) : (Instr.loadAt 63 (.pointer (some ⟨g, 0, none⟩))).run Try.prog w = .ok (.agg (cs l)) w := by
  simp only [Instr.loadAt, Instr.sureAddr, Sem.run_bind, Sem.run_pure, Result.andThen]
  exact run_loadVar_row w g 63 63 (cs l) (0, 0) _ h Try.underlying63 rfl (by rw [cs_size, hl]; exact info56)
theorem one_cell (l : List UInt8) : (cs l).all (·.oneCell') = true := by
  simp [cs, lst, Value.oneCell']
theorem Row.store {w : World} {g : Nat} {l l' : List UInt8} (h : Row w g l) (hl : l.length = 64) (hl' : l'.length = 64) : (Instr.storeAt 63 (.pointer (some ⟨g, 0, none⟩)) (.agg (cs l'))).run Try.prog w = .ok () (w.setRow g (cs l')) := by
  simp only [Instr.storeAt, Instr.sureAddr, Sem.run_bind, Sem.run_pure, Result.andThen]
  exact run_storeVar_row w g 63 63 (cs l) (cs l') h (by rw [cs_size, hl']; exact info56) (by rw [cs_size, cs_size]; omega) (one_cell l')
theorem Row.stored {w : World} {g : Nat} {l l' : List UInt8} (h : Row w g l) : Row (w.setRow g (cs l')) g l' := setRow_heap w g _ _ _ _ h
theorem Row.past {w : World} {g k : Nat} {l l' : List UInt8} (h : Row w k l) (hk : k ≠ g) : Row (w.setRow g (cs l')) k l := by
  unfold Row; rw [setRow_other _ _ _ _ hk]; exact h
theorem below_setRow {B : Nat} {a w : World} (h : Below B a w) {g : Nat} (hg : B ≤ g) (c : Array Value) : Below B a (w.setRow g c) :=
  h.trans ⟨rfl, rfl, rfl, by simp, fun k hk => setRow_other _ _ _ _ (by omega)⟩
def zeros : List UInt8 := List.replicate 64 0
theorem text_any (l : List UInt8) (hl : l.length = 64) (w : World) :
    Calls Try.prog 50 #[.agg (cs l)] w fun e w' => e = .returned (.string ⟨l.toArray⟩) ∧ Below w.heap.size w w' := by
  have hcv : (convert 22 9 (.slice (some ⟨w.heap.size, 0, none⟩) 64 64)).run Try.prog (w.alloc (.cells (cs l) 63)) = .ok (.string ⟨l.toArray⟩) (w.alloc (.cells (cs l) 63)) := by
    have hr : Row (w.alloc (.cells (cs l) 63)) w.heap.size l := heap_alloc_last w _
    have := run_convert_bytes_back (w.alloc (.cells (cs l) 63)) 22 9 5 ⟨w.heap.size, 0, none⟩ 64 l Try.underlying22 Try.underlying5 Try.underlying9 (fun j hj => by
      have e : (⟨w.heap.size, 0, none⟩ : Addr).add j = ⟨w.heap.size, j, none⟩ := by unfold Addr.add; split <;> simp_all
      rw [e]; exact hr.cell j hj)
    rw [hl] at this
    exact this
  go_enter Try.func50, Try.ntmps50
  go_wp2
  go_ret
  exact ⟨rfl, by go_grown⟩


section
variable {P : Program} {ops : Array Oper} {Q : Exit → Act → World → Prop} {a : Act} {rest : List Oper} {o : Oper}
theorem wpList_load_at (w : World) (hg : o.guard = none) (p : Operand) (t : TypeId) (hop : o.op = Op.load t p) (pv v : Value) (hp : a.eval p = pv) (hrun : (Instr.loadAt t pv).run P w = .ok v w)
    (hK : wpList P ops Q rest (a.put o.dst v) w) : wpList P ops Q (o :: rest) a w := by
  refine wpList_plain hg fun K' hK' => ?_
  unfold Oper.wp
  simp only [execOp, hop, hp, Sem.run_bind, Sem.run_pure, hrun, Result.andThen, Oper.upon_value]
  exact hK' _ _ hK
theorem wpList_store_at (w w' : World) (hg : o.guard = none) (p x : Operand) (t : TypeId) (hop : o.op = Op.store t p x) (pv v : Value) (hp : a.eval p = pv) (hx : a.eval x = v) (hrun : (Instr.storeAt t pv v).run P w = .ok () w')
    (hK : wpList P ops Q rest (a.put o.dst undef) w') : wpList P ops Q (o :: rest) a w := by
  refine wpList_plain hg fun K' hK' => ?_
  unfold Oper.wp
  simp only [execOp, hop, hp, hx, Sem.run_bind, Sem.run_pure, hrun, Result.andThen]
  first | exact hK' _ _ hK | (simp; exact hK' _ _ hK)
end
theorem results_cell {fn : Func} {p : Tmp} {ty : TypeId} (h : fn.results = #[.cell p ty]) (tmps : Array Value) (P : Program) (w : World) :
    (results fn tmps).run P w = ((asAddr (tmps.getD p undef)).run P w).andThen fun a w₁ => (loadVar ty a).run P w₁ := by
  simp only [results, h]
  simp [Sem.run_bind, Result.andThen]
def mixK (f : UInt8 → UInt8 → UInt8) (a b : List UInt8) : Nat → List UInt8
  | 0 => a
  | k + 1 => (mixK f a b k).set k (f (a.getD k 0) (b.getD k 0))
theorem mixK_length (f : UInt8 → UInt8 → UInt8) (a b : List UInt8) (k : Nat) : (mixK f a b k).length = a.length := by
  induction k with
  | zero => rfl
  | succ k ih => simp [mixK, ih]
theorem mixK_get (f : UInt8 → UInt8 → UInt8) (a b : List UInt8) (k j : Nat) : (mixK f a b k)[j]? = if j < k ∧ j < a.length then some (f (a.getD j 0) (b.getD j 0)) else a[j]? := by
  induction k with
  | zero => simp [mixK]
  | succ k ih =>
    rw [mixK, List.getElem?_set, ih, mixK_length]
    by_cases e : k = j
    · subst e
      by_cases h : k < a.length
      · simp [h]
      · simp [h]
    · simp only [e, if_false]
      have : (j < k + 1 ∧ j < a.length) ↔ (j < k ∧ j < a.length) := by omega
      simp only [this]
def mix (f : UInt8 → UInt8 → UInt8) (a b : List UInt8) : List UInt8 := mixK f a b 64
theorem mix_length (f : UInt8 → UInt8 → UInt8) (a b : List UInt8) : (mix f a b).length = a.length := mixK_length f a b 64
theorem zero_cs : (#[Value.int IntKind.u8 0, Value.int IntKind.u8 0, Value.int IntKind.u8 0, Value.int IntKind.u8 0, Value.int IntKind.u8 0, Value.int IntKind.u8 0, Value.int IntKind.u8 0, Value.int IntKind.u8 0, Value.int IntKind.u8 0, Value.int IntKind.u8 0, Value.int IntKind.u8 0, Value.int IntKind.u8 0, Value.int IntKind.u8 0, Value.int IntKind.u8 0, Value.int IntKind.u8 0, Value.int IntKind.u8 0, Value.int IntKind.u8 0, Value.int IntKind.u8 0, Value.int IntKind.u8 0, Value.int IntKind.u8 0, Value.int IntKind.u8 0, Value.int IntKind.u8 0, Value.int IntKind.u8 0, Value.int IntKind.u8 0, Value.int IntKind.u8 0, Value.int IntKind.u8 0, Value.int IntKind.u8 0, Value.int IntKind.u8 0, Value.int IntKind.u8 0, Value.int IntKind.u8 0, Value.int IntKind.u8 0, Value.int IntKind.u8 0, Value.int IntKind.u8 0, Value.int IntKind.u8 0, Value.int IntKind.u8 0, Value.int IntKind.u8 0, Value.int IntKind.u8 0, Value.int IntKind.u8 0, Value.int IntKind.u8 0, Value.int IntKind.u8 0, Value.int IntKind.u8 0, Value.int IntKind.u8 0, Value.int IntKind.u8 0, Value.int IntKind.u8 0, Value.int IntKind.u8 0, Value.int IntKind.u8 0, Value.int IntKind.u8 0, Value.int IntKind.u8 0, Value.int IntKind.u8 0, Value.int IntKind.u8 0, Value.int IntKind.u8 0, Value.int IntKind.u8 0, Value.int IntKind.u8 0, Value.int IntKind.u8 0, Value.int IntKind.u8 0, Value.int IntKind.u8 0, Value.int IntKind.u8 0, Value.int IntKind.u8 0, Value.int IntKind.u8 0, Value.int IntKind.u8 0, Value.int IntKind.u8 0, Value.int IntKind.u8 0, Value.int IntKind.u8 0, Value.int IntKind.u8 0] : Array Value) = cs zeros := by kernel_rfl
theorem zeros_length : zeros.length = 64 := by simp [zeros]
theorem u8or (x y : UInt8) : bits BinOp.or IntKind.u8 (x.toNat : Int) (y.toNat : Int) = ((x ||| y).toNat : Int) := by
  rw [u8_or_nat _ _ x.toNat_lt y.toNat_lt, UInt8.toNat_or]
theorem u8and (x y : UInt8) : bits BinOp.and IntKind.u8 (x.toNat : Int) (y.toNat : Int) = ((x &&& y).toNat : Int) := by
  rw [u8_and_nat _ _ x.toNat_lt y.toNat_lt, UInt8.toNat_and]
theorem u8andNot (x y : UInt8) : bits BinOp.andNot IntKind.u8 (x.toNat : Int) (y.toNat : Int) = ((x &&& ~~~y).toNat : Int) := by
  rw [u8_andNot_nat _ _ x.toNat_lt y.toNat_lt, UInt8.toNat_and, UInt8.toNat_not]
  rfl

set_option maxHeartbeats 2000000 in
theorem with_any (a b : List UInt8) (ha : a.length = 64) (hb : b.length = 64) (w : World) :
    Calls Try.prog 49 #[.agg (cs a), .agg (cs b)] w fun e w' => e = .returned (.agg (cs (mix (· ||| ·) a b))) ∧ Below w.heap.size w w' := by
  obtain ⟨W, hW⟩ : ∃ W, W = ((w.alloc (.cells (cs a) 63)).alloc (.cells (cs b) 63)).alloc (.cells (cs zeros) 63) := ⟨_, rfl⟩
  have HB0 : Hid (Below w.heap.size w W) := by rw [hW]; show Below _ _ _; go_grown
  have HR0 : Hid (Row W w.heap.size a) := by rw [hW]; show Row _ _ _; unfold Row; rw [Below.heap_alloc _ _ _ (by simp; omega), Below.heap_alloc _ _ _ (by simp)]; exact heap_alloc_last w _
  have HR1 : Hid (Row W (w.heap.size + 1) b) := by
    rw [hW]; show Row _ _ _; unfold Row; rw [Below.heap_alloc _ _ _ (by simp)]; have := heap_alloc_last (w.alloc (.cells (cs a) 63)) (.cells (cs b) 63); simpa using this
  have HR2 : Hid (Row W (w.heap.size + 1 + 1) zeros) := by
    rw [hW]; show Row _ _ _; unfold Row; have := heap_alloc_last ((w.alloc (.cells (cs a) 63)).alloc (.cells (cs b) 63)) (.cells (cs zeros) 63); simpa using this
  have HW : Hid (W = ((w.alloc (.cells (cs a) 63)).alloc (.cells (cs b) 63)).alloc (.cells (cs zeros) 63)) := hW
  clear hW
  have HA : Hid (a.length = 64) := ha
  have HBL : Hid (b.length = 64) := hb
  clear ha hb
  go_enter Try.func49, Try.ntmps49
  go_wp2
  rw [zero_cs, ← HW.out]
  go_loopw [6] (fun i wr => ∃ k : Nat, k ≤ 64 ∧ i = .int .i64 k ∧ Row wr w.heap.size (mixK (· ||| ·) a b k) ∧ Row wr (w.heap.size + 1) b ∧ Row wr (w.heap.size + 1 + 1) zeros ∧ Below w.heap.size w wr) (fun i _ => 64 - (intOf i).toNat)
  case atStart => exact ⟨0, Nat.zero_le _, rfl, HR0.out, HR1.out, HR2.out, HB0.out⟩
  case round =>
    obtain ⟨k, hk, rfl, hr0, hr1, hr2, hb⟩ := hrel
    have H0 : Hid (Row wr w.heap.size (mixK (· ||| ·) a b k)) := hr0
    have H1 : Hid (Row wr (w.heap.size + 1) b) := hr1
    have H2 : Hid (Row wr (w.heap.size + 1 + 1) zeros) := hr2
    have HB : Hid (Below w.heap.size w wr) := hb
    clear hr0 hr1 hr2 hb
    by_cases hlt : k < 64
    · have hlti : (k : Int) < 64 := by omega
      have hk0 : (0 : Int) ≤ (k : Int) := by omega
      have c0 := H0.out.cell k (by rw [mixK_length, HA.out]; exact hlt)
      have c1 := H1.out.cell k (by rw [HBL.out]; exact hlt)
      have f0 := H0.out.frozen k
      have e0 : (mixK (· ||| ·) a b k)[k]'(by rw [mixK_length, HA.out]; exact hlt) = a.getD k 0 := by
        have := mixK_get (· ||| ·) a b k k
        simp at this
        rw [List.getElem?_eq_getElem (by rw [mixK_length, HA.out]; exact hlt), List.getElem?_eq_getElem (by rw [HA.out]; exact hlt)] at this
        rw [List.getD_eq_getElem?_getD, List.getElem?_eq_getElem (by rw [HA.out]; exact hlt)]
        simpa using this
      have e1 : b[k]'(by rw [HBL.out]; exact hlt) = b.getD k 0 := by
        rw [List.getD_eq_getElem?_getD, List.getElem?_eq_getElem (by rw [HBL.out]; exact hlt)]; rfl
      rw [e0] at c0
      rw [e1] at c1
      have HS : Hid (mixK (· ||| ·) a b (k + 1) = (mixK (· ||| ·) a b k).set k ((· ||| ·) (a.getD k 0) (b.getD k 0))) := rfl
      have hop := u8or (a.getD k 0) (b.getD k 0)
      generalize a.getD k 0 = x at c0 HS hop
      generalize b.getD k 0 = y at c1 HS hop
      have HOP : Hid (bits _ IntKind.u8 (x.toNat : Int) (y.toNat : Int) = (((· ||| ·) x y).toNat : Int)) := hop
      clear e0 e1
      go_wp2
      go_region
      all_goals go_wp2
      all_goals go_roundw
      case rel => exact ⟨k + 1, by omega, by go_num, by rw [HS.out]; exact H0.out.set k _ _ (by rw [UInt8.toNat_or]), H1.out.other _ (by simp), H2.out.other _ (by simp; omega), (HB.out.setCell (p := ⟨w.heap.size, k, none⟩) (Nat.le_refl _) _).drew⟩
      case measure => simp [intOf]; omega
    · have hk2 : k = 64 := by omega
      subst hk2
      have hml : (mix (· ||| ·) a b).length = 64 := (mix_length _ a b).trans HA.out
      have H0' : Hid (Row wr w.heap.size (mix (· ||| ·) a b)) := H0
      clear H0 hlt
      obtain ⟨m, hm⟩ : ∃ m, m = mix (· ||| ·) a b := ⟨_, rfl⟩
      rw [← hm] at H0' hml
      have HM : Hid (m = mix (· ||| ·) a b) := hm
      have hld : Hid (_ = _) := H0'.out.load hml
      have hsv : Hid (_ = _) := H2.out.store zeros_length hml
      clear hm
      rename_i hKK
      have HKK : Hid _ := hKK
      clear hKK
      go_wp2
      refine HKK.out _ _ ?_
      go_step
      go_step
      refine wpList_load_at _ rfl _ 63 rfl _ _ rfl hld.out ?_
      refine wpList_store_at _ _ rfl _ _ 63 rfl _ _ rfl rfl hsv.out ?_
      rename_i hKZ
      refine wpList_nil ?_
      refine hKZ _ _ ?_
      go_step
      have hfin := (H2.out.stored (l' := m)).load hml
      have hfin2 : Hid ((loadVar 63 ⟨w.heap.size + 1 + 1, 0, none⟩).run Try.prog (wr.setRow (w.heap.size + 1 + 1) (cs m)) = .ok (.agg (cs m)) (wr.setRow (w.heap.size + 1 + 1) (cs m))) := by
        show _ = _
        simpa only [Instr.loadAt, Instr.sureAddr, Sem.run_bind, Sem.run_pure, Result.andThen] using hfin
      clear hfin
      refine bodyPost_ret (v := .agg (cs m)) ?_ rfl ⟨by rw [HM.out], below_setRow HB.out (by omega) _⟩
      rw [results_cell Try.results49]
      simp [asAddr, Act.put, Result.andThen, hfin2.out]
set_option maxHeartbeats 2000000 in
theorem among_any (a b : List UInt8) (ha : a.length = 64) (hb : b.length = 64) (w : World) :
    Calls Try.prog 48 #[.agg (cs a), .agg (cs b)] w fun e w' => e = .returned (.agg (cs (mix (· &&& ·) a b))) ∧ Below w.heap.size w w' := by
  obtain ⟨W, hW⟩ : ∃ W, W = ((w.alloc (.cells (cs a) 63)).alloc (.cells (cs b) 63)).alloc (.cells (cs zeros) 63) := ⟨_, rfl⟩
  have HB0 : Hid (Below w.heap.size w W) := by rw [hW]; show Below _ _ _; go_grown
  have HR0 : Hid (Row W w.heap.size a) := by rw [hW]; show Row _ _ _; unfold Row; rw [Below.heap_alloc _ _ _ (by simp; omega), Below.heap_alloc _ _ _ (by simp)]; exact heap_alloc_last w _
  have HR1 : Hid (Row W (w.heap.size + 1) b) := by
    rw [hW]; show Row _ _ _; unfold Row; rw [Below.heap_alloc _ _ _ (by simp)]; have := heap_alloc_last (w.alloc (.cells (cs a) 63)) (.cells (cs b) 63); simpa using this
  have HR2 : Hid (Row W (w.heap.size + 1 + 1) zeros) := by
    rw [hW]; show Row _ _ _; unfold Row; have := heap_alloc_last ((w.alloc (.cells (cs a) 63)).alloc (.cells (cs b) 63)) (.cells (cs zeros) 63); simpa using this
  have HW : Hid (W = ((w.alloc (.cells (cs a) 63)).alloc (.cells (cs b) 63)).alloc (.cells (cs zeros) 63)) := hW
  clear hW
  have HA : Hid (a.length = 64) := ha
  have HBL : Hid (b.length = 64) := hb
  clear ha hb
  go_enter Try.func48, Try.ntmps48
  go_wp2
  rw [zero_cs, ← HW.out]
  go_loopw [6] (fun i wr => ∃ k : Nat, k ≤ 64 ∧ i = .int .i64 k ∧ Row wr w.heap.size (mixK (· &&& ·) a b k) ∧ Row wr (w.heap.size + 1) b ∧ Row wr (w.heap.size + 1 + 1) zeros ∧ Below w.heap.size w wr) (fun i _ => 64 - (intOf i).toNat)
  case atStart => exact ⟨0, Nat.zero_le _, rfl, HR0.out, HR1.out, HR2.out, HB0.out⟩
  case round =>
    obtain ⟨k, hk, rfl, hr0, hr1, hr2, hb⟩ := hrel
    have H0 : Hid (Row wr w.heap.size (mixK (· &&& ·) a b k)) := hr0
    have H1 : Hid (Row wr (w.heap.size + 1) b) := hr1
    have H2 : Hid (Row wr (w.heap.size + 1 + 1) zeros) := hr2
    have HB : Hid (Below w.heap.size w wr) := hb
    clear hr0 hr1 hr2 hb
    by_cases hlt : k < 64
    · have hlti : (k : Int) < 64 := by omega
      have hk0 : (0 : Int) ≤ (k : Int) := by omega
      have c0 := H0.out.cell k (by rw [mixK_length, HA.out]; exact hlt)
      have c1 := H1.out.cell k (by rw [HBL.out]; exact hlt)
      have f0 := H0.out.frozen k
      have e0 : (mixK (· &&& ·) a b k)[k]'(by rw [mixK_length, HA.out]; exact hlt) = a.getD k 0 := by
        have := mixK_get (· &&& ·) a b k k
        simp at this
        rw [List.getElem?_eq_getElem (by rw [mixK_length, HA.out]; exact hlt), List.getElem?_eq_getElem (by rw [HA.out]; exact hlt)] at this
        rw [List.getD_eq_getElem?_getD, List.getElem?_eq_getElem (by rw [HA.out]; exact hlt)]
        simpa using this
      have e1 : b[k]'(by rw [HBL.out]; exact hlt) = b.getD k 0 := by
        rw [List.getD_eq_getElem?_getD, List.getElem?_eq_getElem (by rw [HBL.out]; exact hlt)]; rfl
      rw [e0] at c0
      rw [e1] at c1
      have HS : Hid (mixK (· &&& ·) a b (k + 1) = (mixK (· &&& ·) a b k).set k ((· &&& ·) (a.getD k 0) (b.getD k 0))) := rfl
      have hop := u8and (a.getD k 0) (b.getD k 0)
      generalize a.getD k 0 = x at c0 HS hop
      generalize b.getD k 0 = y at c1 HS hop
      have HOP : Hid (bits _ IntKind.u8 (x.toNat : Int) (y.toNat : Int) = (((· &&& ·) x y).toNat : Int)) := hop
      clear e0 e1
      go_wp2
      go_region
      all_goals go_wp2
      all_goals go_roundw
      case rel => exact ⟨k + 1, by omega, by go_num, by rw [HS.out]; exact H0.out.set k _ _ (by rw [UInt8.toNat_and]), H1.out.other _ (by simp), H2.out.other _ (by simp; omega), (HB.out.setCell (p := ⟨w.heap.size, k, none⟩) (Nat.le_refl _) _).drew⟩
      case measure => simp [intOf]; omega
    · have hk2 : k = 64 := by omega
      subst hk2
      have hml : (mix (· &&& ·) a b).length = 64 := (mix_length _ a b).trans HA.out
      have H0' : Hid (Row wr w.heap.size (mix (· &&& ·) a b)) := H0
      clear H0 hlt
      obtain ⟨m, hm⟩ : ∃ m, m = mix (· &&& ·) a b := ⟨_, rfl⟩
      rw [← hm] at H0' hml
      have HM : Hid (m = mix (· &&& ·) a b) := hm
      have hld : Hid (_ = _) := H0'.out.load hml
      have hsv : Hid (_ = _) := H2.out.store zeros_length hml
      clear hm
      rename_i hKK
      have HKK : Hid _ := hKK
      clear hKK
      go_wp2
      refine HKK.out _ _ ?_
      go_step
      go_step
      refine wpList_load_at _ rfl _ 63 rfl _ _ rfl hld.out ?_
      refine wpList_store_at _ _ rfl _ _ 63 rfl _ _ rfl rfl hsv.out ?_
      rename_i hKZ
      refine wpList_nil ?_
      refine hKZ _ _ ?_
      go_step
      have hfin := (H2.out.stored (l' := m)).load hml
      have hfin2 : Hid ((loadVar 63 ⟨w.heap.size + 1 + 1, 0, none⟩).run Try.prog (wr.setRow (w.heap.size + 1 + 1) (cs m)) = .ok (.agg (cs m)) (wr.setRow (w.heap.size + 1 + 1) (cs m))) := by
        show _ = _
        simpa only [Instr.loadAt, Instr.sureAddr, Sem.run_bind, Sem.run_pure, Result.andThen] using hfin
      clear hfin
      refine bodyPost_ret (v := .agg (cs m)) ?_ rfl ⟨by rw [HM.out], below_setRow HB.out (by omega) _⟩
      rw [results_cell Try.results48]
      simp [asAddr, Act.put, Result.andThen, hfin2.out]
end Go.Proofs.Ytomlogkbndmaaaa.lb
