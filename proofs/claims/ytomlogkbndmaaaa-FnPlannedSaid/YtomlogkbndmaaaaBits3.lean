/-
  A text read as a map: what the program's readMap returns; nothing that was there is written.
-/
import Derived.Test.YtomlogkbndmaaaaBits2
import Derived.Deep.RegionHeld3
import Derived.Laws.ResultCell
import Derived.Lib.LazyBuf
namespace Go.Proofs.Ytomlogkbndmaaaa.lb
open Go.RowKit

/-- Noughts, written out. -/
abbrev zlit : Array Value := #[Value.int IntKind.u8 0, Value.int IntKind.u8 0, Value.int IntKind.u8 0, Value.int IntKind.u8 0, Value.int IntKind.u8 0, Value.int IntKind.u8 0, Value.int IntKind.u8 0, Value.int IntKind.u8 0, Value.int IntKind.u8 0, Value.int IntKind.u8 0, Value.int IntKind.u8 0, Value.int IntKind.u8 0, Value.int IntKind.u8 0, Value.int IntKind.u8 0, Value.int IntKind.u8 0, Value.int IntKind.u8 0, Value.int IntKind.u8 0, Value.int IntKind.u8 0, Value.int IntKind.u8 0, Value.int IntKind.u8 0, Value.int IntKind.u8 0, Value.int IntKind.u8 0, Value.int IntKind.u8 0, Value.int IntKind.u8 0, Value.int IntKind.u8 0, Value.int IntKind.u8 0, Value.int IntKind.u8 0, Value.int IntKind.u8 0, Value.int IntKind.u8 0, Value.int IntKind.u8 0, Value.int IntKind.u8 0, Value.int IntKind.u8 0, Value.int IntKind.u8 0, Value.int IntKind.u8 0, Value.int IntKind.u8 0, Value.int IntKind.u8 0, Value.int IntKind.u8 0, Value.int IntKind.u8 0, Value.int IntKind.u8 0, Value.int IntKind.u8 0, Value.int IntKind.u8 0, Value.int IntKind.u8 0, Value.int IntKind.u8 0, Value.int IntKind.u8 0, Value.int IntKind.u8 0, Value.int IntKind.u8 0, Value.int IntKind.u8 0, Value.int IntKind.u8 0, Value.int IntKind.u8 0, Value.int IntKind.u8 0, Value.int IntKind.u8 0, Value.int IntKind.u8 0, Value.int IntKind.u8 0, Value.int IntKind.u8 0, Value.int IntKind.u8 0, Value.int IntKind.u8 0, Value.int IntKind.u8 0, Value.int IntKind.u8 0, Value.int IntKind.u8 0, Value.int IntKind.u8 0, Value.int IntKind.u8 0, Value.int IntKind.u8 0, Value.int IntKind.u8 0, Value.int IntKind.u8 0]
set_option maxRecDepth 20000 in
theorem zlit_cs : zlit = cs zeros := zero_cs
set_option maxRecDepth 20000 in
theorem zlit_ag : Value.agg zlit = .agg (cs zeros) := by rw [zlit_cs]
set_option maxRecDepth 20000 in
theorem row_zero (w : World) : Row (w.alloc (.cells zlit 63)) w.heap.size zeros := by
  rw [zlit_cs]; exact heap_alloc_last w _
section
variable {ops : Array Oper} {Q : Exit → Act → World → Prop} {a : Act} {rest : List Oper} {o : Oper}
set_option maxRecDepth 20000 in
theorem wpList_loadRow (w : World) (hg : o.guard = none) (p : Operand) (hop : o.op = Op.load 63 p) (g : Nat) (hp : a.eval p = .pointer (some ⟨g, 0, none⟩)) (l : List UInt8) (hr : Row w g l) (hl : l.length = 64)
    (hK : wpList Try.prog ops Q rest (a.put o.dst (.agg (cs l))) w) : wpList Try.prog ops Q (o :: rest) a w :=
  wpList_load_at w hg p _ hop _ _ hp (hr.load hl) hK
set_option maxRecDepth 20000 in
theorem wpList_storeRow (w : World) (hg : o.guard = none) (p x : Operand) (hop : o.op = Op.store 63 p x) (g : Nat) (hp : a.eval p = .pointer (some ⟨g, 0, none⟩)) (l' : List UInt8) (hx : a.eval x = .agg (cs l')) (l : List UInt8) (hr : Row w g l) (hl : l.length = 64) (hl' : l'.length = 64)
    (hK : wpList Try.prog ops Q rest (a.put o.dst undef) (w.setRow g (cs l'))) : wpList Try.prog ops Q (o :: rest) a w :=
  wpList_store_at w _ hg p x _ hop _ _ hp hx (hr.store hl hl') hK
set_option maxRecDepth 20000 in
theorem wpList_storeNew (w : World) (hg : o.guard = none) (p x : Operand) (hop : o.op = Op.store 63 p x) (hp : a.eval p = .pointer (some ⟨w.heap.size, 0, none⟩)) (l' : List UInt8) (hx : a.eval x = .agg (cs l')) (hl' : l'.length = 64)
    (hK : wpList Try.prog ops Q rest (a.put o.dst undef) (w.alloc (.cells (cs l') 63))) : wpList Try.prog ops Q (o :: rest) a (w.alloc (.cells zlit 63)) := by
  refine wpList_storeRow _ hg p x hop _ hp l' hx zeros (row_zero w) zeros_length hl' ?_
  rw [World.setRow_alloc_new]
  exact hK
end
def putL (l : List UInt8) (o : Nat) : List UInt8 → List UInt8
  | [] => l
  | b :: t => putL (l.set o b) (o + 1) t
set_option maxRecDepth 20000 in
theorem putL_get (t : List UInt8) : ∀ (l : List UInt8) (o j : Nat), (putL l o t)[j]? = if o ≤ j ∧ j < o + t.length ∧ j < l.length then t[j - o]? else l[j]? := by
  induction t with
  | nil => intro l o j; simp [putL]; omega
  | cons b t ih =>
    intro l o j
    rw [putL, ih, List.length_set, List.getElem?_set]
    by_cases h1 : o = j
    · subst h1
      simp
      by_cases h2 : o < l.length
      · simp [h2]; omega
      · simp [h2]
    · by_cases h2 : o + 1 ≤ j ∧ j < o + 1 + t.length ∧ j < l.length
      · rw [if_pos h2, if_pos (by simp; omega)]
        obtain ⟨q, hq⟩ : ∃ q, j - o = q + 1 := ⟨j - o - 1, by omega⟩
        rw [hq, List.getElem?_cons_succ]
        congr 1
        omega
      · rw [if_neg h2, if_neg h1, if_neg (by simp; omega)]
set_option maxRecDepth 20000 in
theorem putL_all (l t : List UInt8) (h : t.length = l.length) : putL l 0 t = t := by
  apply List.ext_getElem?
  intro j
  rw [putL_get]
  by_cases hj : j < l.length
  · rw [if_pos (by omega)]; rfl
  · rw [if_neg (by omega), List.getElem?_eq_none (by omega), List.getElem?_eq_none (by omega)]
set_option maxRecDepth 20000 in
theorem row_cells (t : List UInt8) : ∀ (w : World) (g o : Nat) (l : List UInt8), Row w g l → Row (w.setCells g o (lst t)) g (putL l o t) := by
  induction t with
  | nil => intro w g o l h; exact h
  | cons b t ih =>
    intro w g o l h
    show Row ((w.setCell ⟨g, o, none⟩ (.int .u8 (b.toNat : Int))).setCells g (o + 1) (lst t)) g (putL (l.set o b) (o + 1) t)
    exact ih _ g (o + 1) _ (h.set o b _ rfl)
set_option maxRecDepth 20000 in
theorem row_past (t : List UInt8) : ∀ (w : World) (g k o : Nat) (l : List UInt8), k ≠ g → Row w k l → Row (w.setCells g o (lst t)) k l := by
  induction t with
  | nil => intro w g k o l _ h; exact h
  | cons b t ih =>
    intro w g k o l hk h
    show Row ((w.setCell ⟨g, o, none⟩ (.int .u8 (b.toNat : Int))).setCells g (o + 1) (lst t)) k l
    exact ih _ g k (o + 1) _ hk (h.other _ hk)
set_option maxRecDepth 20000 in
theorem size8 : ∀ w, (Go.sizeOf 5).run Try.prog w = .ok 1 w := fun w => by kernel_rfl
set_option maxRecDepth 20000 in
theorem copy_row (w : World) (g : Nat) (l : List UInt8) (dt : ByteArray) (ty : TypeId) (hr : Row w g l) (hl : l.length = 64) (hd : dt.size = 64) :
    (Builtin.copy_ #[22, 9] ty #[.slice (some ⟨g, 0, none⟩) 64 64, .string dt]).run Try.prog w = .ok (goInt dt.size) (w.setCells g 0 (lst dt.data.toList)) :=
  Go.run_copy_string (P := Try.prog) w 22 9 ty 5 g 0 64 64 dt Try.underlying22 size8 (by omega) (fun j hj => by rw [hr.cell (0 + j) (by omega)]; rfl) (fun j _ => hr.frozen (0 + j))
set_option maxRecDepth 20000 in
theorem Row.range {w : World} {g : Nat} {l : List UInt8} (h : Row w g l) : w.rangeAt g 0 (lst l) := fun j v hv => by
  rw [show 0 + j = j by omega, cell_of_row w g j _ _ _ h]
  simpa using hv
set_option maxRecDepth 20000 in
theorem Row.there {w : World} {g : Nat} {l : List UInt8} (h : Row w g l) (hl : l.length = 64) : w.there g 0 64 := fun j hj => by
  rw [show 0 + j = j by omega]
  exact ⟨by rw [h.cell j (by omega)]; rfl, h.frozen j⟩
set_option maxRecDepth 20000 in
theorem lst_length (l : List UInt8) : (lst l).length = l.length := by simp [lst]

/-- Is it a map? -/
def mapOk (m : ByteArray) : Bool := decide (m.size = 64) && decide (m.data.toList.drop 16 = List.replicate 48 0)
set_option maxRecDepth 20000 in
theorem run_all : runK 0 128 = List.replicate 16 255 ++ List.replicate 48 0 := by kernel_rfl
set_option maxRecDepth 20000 in
theorem and255 (x : UInt8) : x &&& 255 = x := by
  apply UInt8.toNat.inj
  rw [UInt8.toNat_and]
  have := x.toNat_lt
  show x.toNat &&& 255 = x.toNat
  rw [Nat.and_two_pow_sub_one_eq_mod x.toNat 8]
  omega
set_option maxRecDepth 20000 in
theorem among_all (l : List UInt8) (hl : l.length = 64) : decide (mix (· &&& ·) l (runK 0 128) = l) = decide (l.drop 16 = List.replicate 48 0) := by
  rw [run_all, decide_eq_decide]
  have hg : ∀ j, (mix (· &&& ·) l (List.replicate 16 255 ++ List.replicate 48 0))[j]? = if j < 16 then l[j]? else if j < 64 then some 0 else none := by
    intro j
    unfold mix
    rw [mixK_get]
    by_cases h1 : j < 16
    · rw [if_pos (by omega), if_pos h1, List.getElem?_eq_getElem (by omega), getD_at l j (by omega), List.getD_eq_getElem?_getD (l := List.replicate 16 255 ++ _), List.getElem?_append_left (by simp; omega), List.getElem?_replicate_of_lt h1]
      simp only [Option.getD_some]
      rw [and255]
    · rw [if_neg h1]
      by_cases h2 : j < 64
      · rw [if_pos (by omega), if_pos h2, List.getD_eq_getElem?_getD (l := List.replicate 16 255 ++ _), List.getElem?_append_right (by simp; omega)]
        simp only [List.length_replicate]
        rw [List.getElem?_replicate_of_lt (by omega)]
        simp
      · rw [if_neg (by omega), if_neg h2, List.getElem?_eq_none (by omega)]
  constructor
  · intro h
    apply List.ext_getElem?
    intro j
    rw [List.getElem?_drop, ← h, hg, if_neg (by omega)]
    by_cases hj : j < 48
    · rw [if_pos (by omega), List.getElem?_replicate_of_lt hj]
    · rw [if_neg (by omega), List.getElem?_eq_none (by simp; omega)]
  · intro h
    apply List.ext_getElem?
    intro j
    rw [hg]
    by_cases h1 : j < 16
    · rw [if_pos h1]
    · rw [if_neg h1]
      have e : l[j]? = (l.drop 16)[j - 16]? := by rw [List.getElem?_drop]; congr 1; omega
      rw [e, h]
      by_cases h2 : j < 64
      · rw [if_pos h2, List.getElem?_replicate_of_lt (by omega)]
      · rw [if_neg h2, List.getElem?_eq_none (by simp; omega)]
set_option maxRecDepth 20000 in
theorem Row.loadVar {w : World} {g : Nat} {l : List UInt8} (h : Row w g l) (hl : l.length = 64) : (loadVar 63 ⟨g, 0, none⟩).run Try.prog w = .ok (.agg (cs l)) w := by
  simpa only [Instr.loadAt, Instr.sureAddr, Sem.run_bind, Sem.run_pure, Result.andThen] using h.load hl
set_option maxRecDepth 20000 in
theorem wp_store_row {op : Oper} {a : Act} {w : World} {K : Act → World → Prop} {Q : Exit → Act → World → Prop} (x y : Operand) (ho : op.op = .store 63 x y) (g : Nat) (hx : a.eval x = .pointer (some ⟨g, 0, none⟩)) (l' : List UInt8) (hy : a.eval y = .agg (cs l'))
    (l : List UInt8) (hr : Row w g l) (hl : l.length = 64) (hl' : l'.length = 64) (h : K (a.put op.dst undef) (w.setRow g (cs l'))) : op.wp Try.prog a w K Q := by
  unfold Oper.wp execOp
  simp only [ho, hx, hy, Sem.run_bind, Sem.run_pure, Result.andThen_ok, hr.store hl hl']
  exact h
set_option maxRecDepth 20000 in
theorem wp_load_row {op : Oper} {a : Act} {w : World} {K : Act → World → Prop} {Q : Exit → Act → World → Prop} (x : Operand) (ho : op.op = .load 63 x) (g : Nat) (hx : a.eval x = .pointer (some ⟨g, 0, none⟩))
    (l : List UInt8) (hr : Row w g l) (hl : l.length = 64) (h : K (a.put op.dst (.agg (cs l))) w) : op.wp Try.prog a w K Q := by
  unfold Oper.wp execOp
  simp only [ho, hx, Sem.run_bind, Sem.run_pure, Result.andThen_ok, hr.load hl]
  exact h
set_option maxRecDepth 20000 in
theorem yields_row {ops : Array Oper} {S : World → Prop} {op : Oper} {a : Act} (hw : Region.wanted op (yielded ops a.tmps) = true) (x : Operand) (ho : op.op = .load 63 x) (g : Nat) (hx : a.eval x = .pointer (some ⟨g, 0, none⟩)) (l : List UInt8) (hS : ∀ w, S w → Row w g l) (hl : l.length = 64) : YieldsIf Try.prog ops S op (.agg (cs l)) a :=
  .inl ⟨hw, fun w hw' => by
    unfold execOp
    simp only [ho, hx, Sem.run_bind, Sem.run_pure, Result.andThen_ok, (hS w hw').load hl]⟩
set_option maxRecDepth 20000 in
theorem readMap_no (m : ByteArray) (hm : m.size ≠ 64) (w : World) :
    Calls Try.prog 37 #[.string m] w fun e w' => e = .returned (.tuple #[.agg (cs zeros), .bool false]) ∧ Below w.heap.size w w' := by
  have h1 : ((m.size : Int) != 64) = true := by simp; omega
  have hfin : Hid (_ = _) := Row.loadVar (heap_alloc_last w (.cells (cs zeros) 63)) zeros_length
  go_enter Try.func37, Try.ntmps37
  go_wp2_with (refine wpList_storeNew _ rfl _ _ rfl rfl zeros zlit_ag zeros_length ?_; go_step; rename_i hKY _ hKZ; refine hKZ _ _ ?_; refine wpList_nil ?_; refine hKY _ _ ?_; go_step; simp only [Exit.then]; refine bodyPost_ret (v := .tuple #[.agg (cs zeros), .bool false]) ?_ rfl ⟨rfl, by go_grown⟩; rw [results_cell_tmp Try.results37]; simp [asAddr, Act.put, Result.andThen, hfin.out]; rfl)
set_option maxRecDepth 20000 in
set_option maxHeartbeats 2000000 in
theorem readMap_yes (m : ByteArray) (hm : m.size = 64) (w : World) :
    Calls Try.prog 37 #[.string m] w fun e w' => e = .returned (.tuple #[.agg (cs m.data.toList), .bool (mapOk m)]) ∧ Below w.heap.size w w' := by
  have h1 : ((m.size : Int) != 64) = false := by simp; omega
  have hml : m.data.toList.length = 64 := by simpa using hm
  have hl0 := hml
  have HOK : Hid (mapOk m = decide (mix (· &&& ·) m.data.toList (runK 0 128) = m.data.toList)) := by
    show mapOk m = _
    rw [among_all _ hml, mapOk, hm]; rfl
  have HRUN : Hid (∀ w, _) := fun w => run_any 0 128 (by omega) w
  have HAM : Hid (∀ w, _) := fun w => among_any m.data.toList (runK 0 128) hml (runK_length 0 128) w
  have hrl := runK_length 0 128
  have heq := eq_any (mix (· &&& ·) m.data.toList (runK 0 128)) m.data.toList (by rw [mix_length]; exact hml) hml
  have hxl : (mix (· &&& ·) m.data.toList (runK 0 128)).length = 64 := by rw [mix_length]; exact hml
  generalize mix (· &&& ·) m.data.toList (runK 0 128) = x at HOK HAM heq hxl
  generalize runK 0 128 = r at HRUN HAM hrl
  obtain ⟨V, hV⟩ : ∃ V, V = (w.alloc (.cells zlit 63)).alloc (.cells zlit 63) := ⟨_, rfl⟩
  have hV0 : Row V w.heap.size zeros := by rw [hV]; unfold Row; rw [Below.heap_alloc _ _ _ (by simp)]; exact row_zero w
  have hV1 : Row V (w.heap.size + 1) zeros := by rw [hV]; have := row_zero (w.alloc (.cells zlit 63)); simpa using this
  have hcp := fun ty => copy_row V (w.heap.size + 1) zeros m ty hV1 zeros_length hm
  have hVB : Below w.heap.size w V := by rw [hV]; go_grown
  obtain ⟨U, hU⟩ : ∃ U, U = V.setCells (w.heap.size + 1) 0 (lst m.data.toList) := ⟨_, rfl⟩
  have hU0 : Row U w.heap.size zeros := by rw [hU]; exact row_past _ _ _ _ _ _ (by omega) hV0
  have hU1 : Row U (w.heap.size + 1) m.data.toList := by
    have := row_cells m.data.toList V (w.heap.size + 1) 0 zeros hV1
    rw [putL_all _ _ (by rw [hml, zeros_length])] at this
    rw [hU]; exact this
  have hUB : Below w.heap.size w U := by rw [hU]; exact Go.below_setCells (by omega) _ _ _ hVB
  rw [hV] at hcp
  generalize m.data.toList = l at *
  have HV : Hid (V = (w.alloc (.cells zlit 63)).alloc (.cells zlit 63)) := hV
  have HU : Hid (U = V.setCells (w.heap.size + 1) 0 (lst l)) := hU
  have hUs : w.heap.size + 1 < U.heap.size := (Array.getElem?_eq_some_iff.1 hU1).1
  have HUB : Hid (Below w.heap.size w U) := hUB
  have HR : Hid (∀ w', Below U.heap.size U w' → Row w' (w.heap.size + 1) l ∧ ∃ z, z.length = 64 ∧ Row w' w.heap.size z) := fun w' h => ⟨hU1.below h hUs, zeros, zeros_length, hU0.below h (by omega)⟩
  have HBd : Hid (Below U.heap.size U U.drew) := (Below.refl _ _).drew
  have HML : Hid (l.length = 64) := hml
  clear hV hU hU0 hU1 hUB hUs hV0 hV1 hVB hrl hxl hml hl0
  go_enter Try.func37, Try.ntmps37
  go_wp2
  rw [← HV.out, ← HU.out]
  clear hcp
  refine wp_region_held_drew (S := fun w' => Row w' (w.heap.size + 1) l ∧ ∃ z, z.length = 64 ∧ Row w' w.heap.size z) (by kernel_rfl) (HR.out _ HBd.out) (fun hH => ?_)
  refine wpAnyH_take (i := 0) rfl (by kernel_rfl) (by kernel_rfl) (by kernel_rfl) (fun _ _ _ h => h) (yields_row rfl _ rfl _ rfl l (fun _ h => h.1) HML.out) hH ?_
  refine wpAnyH_take (i := 1) rfl (by kernel_rfl) (by kernel_rfl) (by kernel_rfl) (fun _ _ _ h => h) (yields_row rfl _ rfl _ rfl l (fun _ h => h.1) HML.out) hH ?_
  refine wpAnyH_take (i := 4) rfl (by kernel_rfl) (by kernel_rfl) (by kernel_rfl) (fun _ _ _ h => h) (yields_row rfl _ rfl _ rfl l (fun _ h => h.1) HML.out) hH ?_
  refine wpAnyH_ready (rs := [2]) (by kernel_rfl) (by simp) ?_
  refine AllReadyH.cons rfl (fun K hK => ?_) AllReadyH.nil
  rw [if_pos (by rfl)]
  clear hH
  go_simp
  refine (HRUN.out _).mono ?_
  rintro e w5 ⟨rfl, hb5⟩
  have h5 : Below U.heap.size U w5 := ⟨hb5.os, hb5.tape, hb5.output, hb5.size, hb5.block⟩
  refine hK.out _ _ (HR.out _ h5) (fun hH => ?_)
  clear hK K
  refine wpAnyH_ready (rs := [3]) (by kernel_rfl) (by simp) ?_
  refine AllReadyH.cons rfl (fun K hK => ?_) AllReadyH.nil
  rw [if_pos (by rfl)]
  have H5 : Hid (Below U.heap.size U w5) := h5
  clear hH hb5 h5
  go_simp
  refine (HAM.out _).mono ?_
  rintro e w6 ⟨rfl, hb6⟩
  have h6 : Below U.heap.size U w6 := H5.out.trans (hb6.mono H5.out.size)
  refine hK.out _ _ (HR.out _ h6) (fun hH => ?_)
  clear hK K
  refine wpAnyH_take (i := 5) rfl (by kernel_rfl) (by kernel_rfl) (by kernel_rfl) (fun _ _ _ h => h) (v := .bool (decide (x = l))) (Or.inl ⟨by rfl, fun w _ => by go_simp⟩) hH ?_
  refine wpAnyH_ready (rs := [6]) (by kernel_rfl) (by simp) ?_
  refine AllReadyH.cons rfl (fun K hK => ?_) AllReadyH.nil
  rw [if_pos (by rfl)]
  obtain ⟨hr1, z, hz, hr0⟩ := hH
  refine wp_store_row _ _ rfl _ rfl l rfl z hr0 hz HML.out ?_
  refine hK.out _ _ ⟨hr1.past (by omega), l, HML.out, hr0.stored⟩ (fun hH => ?_)
  clear hK K
  refine wpAnyH_take (i := 7) rfl (by kernel_rfl) (by kernel_rfl) (by kernel_rfl) (fun _ _ _ h => h) (v := .bool (decide (x = l))) (Or.inl ⟨by rfl, fun w _ => rfl⟩) hH ?_
  refine wpAnyH_done (by kernel_rfl) ?_ _
  rename_i hKZ
  refine hKZ _ _ ?_
  go_step
  have hfin : Hid (_ = _) := (hr0.stored (l' := l)).loadVar HML.out
  refine bodyPost_ret (v := .tuple #[.agg (cs l), .bool (mapOk m)]) ?_ rfl ⟨rfl, below_setRow (HUB.out.trans (h6.mono HUB.out.size)) (Nat.le_refl _) _⟩
  rw [results_cell_tmp Try.results37, HOK.out]
  simp [asAddr, Act.put, Result.andThen, hfin.out]
end Go.Proofs.Ytomlogkbndmaaaa.lb
