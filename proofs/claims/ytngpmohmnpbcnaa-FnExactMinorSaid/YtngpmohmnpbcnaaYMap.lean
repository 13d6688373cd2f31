/-
  The objects of an open nursery, in a map by the words with which they begin: what may be named, and what is found.
-/
import Derived.Test.YtngpmohmnpbcnaaYMath
import Derived.Test.YtngpmohmnpbcnaaYBox
import Derived.Maps.OwnSet
import Derived.Maps.OwnOps
import Derived.Maps.Views
namespace Go.Proofs.Ytngpmohmnpbcnaa.nu
open Go.RowKit Go.Maps
open kinds ints ref obj

/-- A young object as a value: its age, its type, and its values' slice. -/
structure Yg where
  age : Int
  t : Int
  a : Option Addr
  n : Nat
  c : Nat
def zeroYg : Yg := ⟨0, 0, none, 0, 0⟩
def ygVal (y : Yg) : Value := .agg #[.int .i64 y.age, .int .i64 y.t, .slice y.a y.n y.c]
def ygOf : List Value → Option Yg
  | [.int .i64 g, .int .i64 t, .slice a n c] => some ⟨g, t, a, n, c⟩
  | _ => none
theorem ygOf_inv {cs : List Value} {y : Yg} (h : ygOf cs = some y) : cs = [.int .i64 y.age, .int .i64 y.t, .slice y.a y.n y.c] := by
  unfold ygOf at h
  split at h
  · cases h; rfl
  · cases h
def ygElem : Value → Option (DataW Yg × List MemPlace)
  | .agg cs => (ygOf cs.toList).map fun y => (.held y, [])
  | _ => none
theorem ygElem_mk (y : Yg) : ygElem (ygVal y) = some (.held y, []) := rfl
theorem ygElem_inv {v : Value} {y : Yg} {ps : List MemPlace} (h : ygElem v = some (.held y, ps)) : v = ygVal y := by
  unfold ygElem at h
  split at h
  · obtain ⟨y', hy, he⟩ := Option.map_eq_some_iff.1 h
    simp at he
    obtain ⟨rfl, _⟩ := he
    have := ygOf_inv hy
    unfold ygVal
    rw [← this]
  · cases h
theorem law : Keyed Try.prog 69 := int_keyed Try.underlying69
theorem zeroE (w : World) : (zeroValue 71).run Try.prog w = .ok (ygVal zeroYg) w := by kernel_rfl

theorem young_obj (g t : Int) (a : Option Addr) (n c : Nat) (w : World) : (Instr.field 71 (.agg #[.int .i64 g, .int .i64 t, .slice a n c]) 1).run Try.prog w = .ok (.agg #[.int .i64 t, .slice a n c]) w := by kernel_rfl
theorem young_age (g t : Int) (a : Option Addr) (n c : Nat) (w : World) : (Instr.field 71 (.agg #[.int .i64 g, .int .i64 t, .slice a n c]) 0).run Try.prog w = .ok (.int .i64 g) w := by kernel_rfl
/-- What the map in a block holds. -/
def MapIs (w : World) (b n : Nat) (f : Int → Option Yg) : Prop :=
  ∃ D : DataW Yg, w.ownsMap Try.prog 69 ygElem b n D ∧ ∀ p, (Lit.int .i64 p).wf = true → Maps.has D (.int .i64 p) = (f p).isSome ∧ D.atKey (.int .i64 p) (.held zeroYg) = .held ((f p).getD zeroYg)
theorem MapIs.kept {w w' : World} {b n : Nat} {f : Int → Option Yg} {row : Option Nat} (h : MapIs w b n f) (hg : w.grownBy w' row) (hne : some b ≠ row) : MapIs w' b n f := by
  obtain ⟨D, ho, hf⟩ := h
  exact ⟨D, ho.kept hg hne, hf⟩
theorem MapIs.below {w w' : World} {b n : Nat} {f : Int → Option Yg} (h : MapIs w b n f) (hb : Below w.heap.size w w') : MapIs w' b n f := h.kept (grown_below none hb) (by simp)
theorem mapIs_made (w : World) : MapIs (w.alloc (.map #[] 0)) w.heap.size 0 (fun _ => none) :=
  ⟨_, World.ownsMap_made w _ _ _, fun _ _ => ⟨rfl, rfl⟩⟩
theorem isKey (p : Int) : WideAt.IsKeyLit (.int .i64 p) := by trivial
def upd (f : Int → Option Yg) (p : Int) (x : Option Yg) : Int → Option Yg := fun q => if q = p then x else f q
theorem mapIs_put {w' : World} {b n : Nat} {f : Int → Option Yg} {D : DataW Yg} {p : Int} {y : Yg} (hD : IsMap D) (hf : ∀ p, (Lit.int .i64 p).wf = true → Maps.has D (.int .i64 p) = (f p).isSome ∧ D.atKey (.int .i64 p) (.held zeroYg) = .held ((f p).getD zeroYg))
    (h : w'.ownsMap Try.prog 69 ygElem b n (D.put (.int .i64 p) (.held y))) : MapIs w' b n (upd f p (some y)) := by
  refine ⟨_, h, fun q hq => ?_⟩
  unfold upd
  by_cases e : q = p
  · subst e
    rw [if_pos rfl]
    exact ⟨has_put_same hD (isKey q) _, by rw [atKey_put_same hD (isKey q)]; rfl⟩
  · rw [if_neg e]
    have ne : (Lit.int .i64 q) ≠ .int .i64 p := fun x => e (by injection x)
    exact ⟨by rw [has_put_other ne]; exact (hf q hq).1, by rw [atKey_put_other ne]; exact (hf q hq).2⟩
section
variable (w : World) {ops : Array Oper} {rest : List Oper} {o : Oper} {a : Act} {Q : Exit → Act → World → Prop}
theorem at_put (hg : o.guard = none) (m x v : Operand) (hop : o.op = Op.mapUpdate 58 m x v) (b n : Nat) (f : Int → Option Yg) (hm : a.eval m = .map (some b)) (hown : MapIs w b n f) (hn : n < maxLen) (p : Int) (y : Yg)
    (hx : a.eval x = .int .i64 p) (hv : a.eval v = .agg #[.int .i64 y.age, .int .i64 y.t, .slice y.a y.n y.c]) (hw : (Lit.int .i64 p).wf = true)
    (hK : ∀ w', MapIs w' b (n + 1) (upd f p (some y)) → w.grownBy w' (some b) → wpList Try.prog ops Q rest (a.put o.dst undef) w') : wpList Try.prog ops Q (o :: rest) a w := by
  obtain ⟨D, ho, hf⟩ := hown
  exact wpList_mapUpdate_own w hg m x v _ hop 69 71 law Try.underlying58 ygElem b n D hm ho hn _ _ _ hx hv (keyOf_int_mk Try.underlying69 hw) _ _ (ygElem_mk y) fun w' h1 h2 => hK w' (mapIs_put ho.isMap hf h1) h2
end
theorem MapIs.get {w : World} {b n : Nat} {f : Int → Option Yg} (h : MapIs w b n f) (p : Int) (hw : (Lit.int .i64 p).wf = true) :
    (Instr.lookup 58 (.map (some b)) (.int .i64 p) false).run Try.prog w = .ok (ygVal ((f p).getD zeroYg)) w := by
  obtain ⟨D, ho, hf⟩ := h
  obtain ⟨v, ps, hrun, hv⟩ := ho.lookup law Try.underlying58 (zeroE w) (ygElem_mk zeroYg) (keyOf_int_mk Try.underlying69 hw)
  rw [(hf p hw).2] at hv
  rw [hrun, ygElem_inv hv]
theorem MapIs.get_ok {w : World} {b n : Nat} {f : Int → Option Yg} (h : MapIs w b n f) (p : Int) (hw : (Lit.int .i64 p).wf = true) :
    (Instr.lookup 58 (.map (some b)) (.int .i64 p) true).run Try.prog w = .ok (.tuple #[ygVal ((f p).getD zeroYg), .bool (f p).isSome]) w := by
  obtain ⟨D, ho, hf⟩ := h
  obtain ⟨v, ps, hrun, hv⟩ := ho.look_ok law Try.underlying58 (zeroE w) (ygElem_mk zeroYg) (keyOf_int_mk Try.underlying69 hw)
  rw [(hf p hw).2] at hv
  rw [hrun, ygElem_inv hv, (hf p hw).1]
theorem nil_ok (w : World) (p : Int) (hw : (Lit.int .i64 p).wf = true) :
    (Instr.lookup 58 (.map none) (.int .i64 p) true).run Try.prog w = .ok (.tuple #[ygVal zeroYg, .bool false]) w :=
  Maps.look_nil true law Try.underlying58 (zeroE w) (keyOf_int_mk Try.underlying69 hw)

/-- The young object that begins at a word, its values in a block of their own that is no older than B, and is not s. -/
def YIs (w : World) (B s : Nat) (xs : List ByteArray) (ws : List Int) (a : Nat) (y : Yg) : Prop :=
  y.age = ws.getD a 0 % 4 ∧ y.t = ws.getD a 0 / 4 ∧ y.n = (valsA xs ws a).length ∧ ∃ g, y.a = some ⟨g, 0, none⟩ ∧ B ≤ g ∧ g ≠ s ∧ g < w.heap.size ∧ Ints w y.a g (valsA xs ws a)
theorem YIs.kept {w w' : World} {B s : Nat} {row : Option Nat} {xs : List ByteArray} {ws : List Int} {a : Nat} {y : Yg} (h : YIs w B s xs ws a y) (hg : w.grownBy w' row) (hr : ∀ r, row = some r → r < B ∨ r = s) : YIs w' B s xs ws a y := by
  obtain ⟨h1, h2, h3, g, h4, h5, h6, h7, h8⟩ := h
  refine ⟨h1, h2, h3, g, h4, h5, h6, Nat.lt_of_lt_of_le h7 hg.size, fun i hi => ?_⟩
  obtain ⟨e, c0, f0⟩ := h8 i hi
  have hbk := hg.block g h7 (fun q => by rcases hr g q.symm with q | q <;> omega)
  exact ⟨e, by rw [World.cell?_of_block (a := ⟨g, i, none⟩) hbk]; exact c0, by rw [World.frozen?_of_block (a := ⟨g, i, none⟩) hbk]; exact f0⟩
theorem YIs.below {w w' : World} {B s : Nat} {xs : List ByteArray} {ws : List Int} {a : Nat} {y : Yg} (h : YIs w B s xs ws a y) (hb : Below w.heap.size w w') : YIs w' B s xs ws a y := h.kept (grown_below none hb) (fun r q => by cases q)
theorem YIs.shun {w : World} {B s s' : Nat} {xs : List ByteArray} {ws : List Int} {a : Nat} {y : Yg} (h : YIs w B s xs ws a y) (hs : s' = s ∨ w.heap.size ≤ s') : YIs w B s' xs ws a y := by
  obtain ⟨h1, h2, h3, g, h4, h5, h6, h7, h8⟩ := h
  exact ⟨h1, h2, h3, g, h4, h5, by omega, h7, h8⟩
/-- The map of the objects that begin at these words. -/
def Objs (w : World) (B s b n : Nat) (xs : List ByteArray) (ws : List Int) (L : List Nat) : Prop :=
  ∃ f, MapIs w b n f ∧ (∀ p, (f p).isSome = inB L p) ∧ ∀ a ∈ L, ∃ y, f (a : Int) = some y ∧ YIs w B s xs ws a y
theorem Objs.kept {w w' : World} {B s b n : Nat} {row : Option Nat} {xs : List ByteArray} {ws : List Int} {L : List Nat} (h : Objs w B s b n xs ws L) (hg : w.grownBy w' row) (hr : ∀ r, row = some r → r < B ∨ r = s) (hne : ∀ r, row = some r → b ≠ r) : Objs w' B s b n xs ws L := by
  obtain ⟨f, h1, h2, h3⟩ := h
  exact ⟨f, h1.kept hg (fun q => hne b q.symm rfl), h2, fun a ha => by obtain ⟨y, e, q⟩ := h3 a ha; exact ⟨y, e, q.kept hg hr⟩⟩
theorem Objs.below {w w' : World} {B s b n : Nat} {xs : List ByteArray} {ws : List Int} {L : List Nat} (h : Objs w B s b n xs ws L) (hb : Below w.heap.size w w') : Objs w' B s b n xs ws L := h.kept (grown_below none hb) (fun r q => by cases q) (fun r q => by cases q)
theorem Objs.shun {w : World} {B s s' b n : Nat} {xs : List ByteArray} {ws : List Int} {L : List Nat} (h : Objs w B s b n xs ws L) (hs : s' = s ∨ w.heap.size ≤ s') : Objs w B s' b n xs ws L := by
  obtain ⟨f, h1, h2, h3⟩ := h
  exact ⟨f, h1, h2, fun a ha => by obtain ⟨y, e, q⟩ := h3 a ha; exact ⟨y, e, q.shun hs⟩⟩
theorem YIs.move {w w' : World} {B s s' : Nat} {row : Option Nat} {xs : List ByteArray} {ws : List Int} {a : Nat} {y : Yg} (h : YIs w B s xs ws a y) (hg : w.grownBy w' row) (hr : ∀ r, row = some r → r < B ∨ r = s) (hs : s' = s ∨ w.heap.size ≤ s') : YIs w' B s' xs ws a y := by
  obtain ⟨h1, h2, h3, g, h4, h5, h6, h7, h8⟩ := h
  obtain ⟨_, _, _, g', e, _, _, k7, k8⟩ := YIs.kept ⟨h1, h2, h3, g, h4, h5, h6, h7, h8⟩ hg hr
  rw [h4] at e
  have : g = g' := by simpa using e
  subst this
  exact ⟨h1, h2, h3, g, h4, h5, by omega, k7, k8⟩
theorem Objs.move {w w' : World} {B s s' b n : Nat} {row : Option Nat} {xs : List ByteArray} {ws : List Int} {L : List Nat} (h : Objs w B s b n xs ws L) (hg : w.grownBy w' row) (hr : ∀ r, row = some r → r < B ∨ r = s) (hne : ∀ r, row = some r → b ≠ r) (hs : s' = s ∨ w.heap.size ≤ s') : Objs w' B s' b n xs ws L := by
  obtain ⟨f, h1, h2, h3⟩ := h
  exact ⟨f, h1.kept hg (fun q => hne b q.symm rfl), h2, fun a ha => by obtain ⟨y, e, q⟩ := h3 a ha; exact ⟨y, e, q.move hg hr hs⟩⟩
theorem objs_made (w : World) (B s : Nat) (xs : List ByteArray) (ws : List Int) : Objs (w.alloc (.map #[] 0)) B s w.heap.size 0 xs ws [] :=
  ⟨_, mapIs_made w, fun p => by simp [inB], fun a ha => by cases ha⟩
theorem inB_snoc (L : List Nat) (a : Nat) (p : Int) : inB (L ++ [a]) p = (if p = (a : Int) then true else inB L p) := by
  unfold inB
  by_cases h : p = (a : Int)
  · subst h; simp
  · rw [if_neg h]
    by_cases h0 : 0 ≤ p
    · have : p.toNat ≠ a := by omega
      simp [h0, this]
    · simp [h0]
/-- One object more. -/
theorem Objs.put {w w' : World} {B s b n m : Nat} {xs : List ByteArray} {ws : List Int} {L : List Nat} {f : Int → Option Yg} {a : Nat} {y : Yg} (h2 : ∀ p, (f p).isSome = inB L p) (h3 : ∀ a ∈ L, ∃ y, f (a : Int) = some y ∧ YIs w B s xs ws a y) (hy : YIs w B s xs ws a y) (ha : a ∉ L)
    (hm : MapIs w' b m (upd f (a : Int) (some y))) (hg : w.grownBy w' (some n)) (hr : n < B) : Objs w' B s b m xs ws (L ++ [a]) := by
  have hr' : ∀ r, some n = some r → r < B ∨ r = s := fun r q => .inl (by cases q; exact hr)
  refine ⟨_, hm, fun p => ?_, fun x hx => ?_⟩
  · rw [inB_snoc, ← h2]
    unfold upd
    split <;> simp
  · unfold upd
    rcases List.mem_append.1 hx with q | q
    · obtain ⟨z, e, hz⟩ := h3 x q
      have : (x : Int) ≠ (a : Int) := fun e => ha (by have : x = a := by omega
                                                      rw [← this]; exact q)
      exact ⟨z, by rw [if_neg this]; exact e, hz.kept hg hr'⟩
    · rw [List.mem_singleton] at q
      subst q
      exact ⟨y, by rw [if_pos rfl], hy.kept hg hr'⟩
theorem word_wf (a : Nat) (h : a ≤ 1048576) : (Lit.int .i64 (a : Int)).wf = true := by
  simp only [Lit.wf, IntKind.min, IntKind.max, IntKind.signed, IntKind.bits]
  simp
  omega
/-- What is found at a word at which an object begins. -/
theorem Objs.get {w : World} {B s b n : Nat} {xs : List ByteArray} {ws : List Int} {L : List Nat} (h : Objs w B s b n xs ws L) (a : Nat) (ha : a ∈ L) (hb : a ≤ 1048576) : ∃ g c, (∀ w', Below w.heap.size w w' →
    (Instr.lookup 58 (.map (some b)) (.int .i64 (a : Int)) false).run Try.prog w' = .ok (.agg #[.int .i64 (ws.getD a 0 % 4), .int .i64 (ws.getD a 0 / 4), .slice (some ⟨g, 0, none⟩) (valsA xs ws a).length c]) w' ∧
    (Instr.lookup 58 (.map (some b)) (.int .i64 (a : Int)) true).run Try.prog w' = .ok (.tuple #[.agg #[.int .i64 (ws.getD a 0 % 4), .int .i64 (ws.getD a 0 / 4), .slice (some ⟨g, 0, none⟩) (valsA xs ws a).length c], .bool true]) w') ∧
    B ≤ g ∧ Ints w (some ⟨g, 0, none⟩) g (valsA xs ws a) := by
  obtain ⟨f, h1, _, h3⟩ := h
  obtain ⟨⟨age, t, ad, k, c⟩, e, y1, y2, y3, g, y4, y5, _, _, y6⟩ := h3 a ha
  have g1 := fun w' q => (h1.below (w' := w') q).get (a : Int) (word_wf a hb)
  have g2 := fun w' q => (h1.below (w' := w') q).get_ok (a : Int) (word_wf a hb)
  rw [e] at g1 g2
  simp only at y1 y2 y3 y4 y6
  subst y1 y2 y3 y4
  exact ⟨g, c, fun w' q => ⟨g1 w' q, g2 w' q⟩, y5, y6⟩
/-- .. and at any other number. -/
theorem Objs.miss {w : World} {B s b n : Nat} {xs : List ByteArray} {ws : List Int} {L : List Nat} (h : Objs w B s b n xs ws L) (p : Int) (hp : inB L p = false) (hw : (Lit.int .i64 p).wf = true) :
    (Instr.lookup 58 (.map (some b)) (.int .i64 p) true).run Try.prog w = .ok (.tuple #[.agg #[.int .i64 0, .int .i64 0, .slice none 0 0], .bool false]) w := by
  obtain ⟨f, h1, h2, _⟩ := h
  have g2 := h1.get_ok p hw
  have h4 := h2 p
  rw [hp] at h4
  have h5 : f p = none := by simpa using h4
  rw [h5] at g2
  exact g2
/-- A map as a value: none where nothing is open, else that of these objects. -/
def Looks (w : World) (B : Nat) (m : Value) (xs : List ByteArray) (ws : List Int) (L : List Nat) : Prop :=
  (m = .map none ∧ L = []) ∨ ∃ s b n, m = .map (some b) ∧ Objs w B s b n xs ws L
theorem Looks.below {w w' : World} {B : Nat} {m : Value} {xs : List ByteArray} {ws : List Int} {L : List Nat} (h : Looks w B m xs ws L) (hb : Below w.heap.size w w') : Looks w' B m xs ws L := by
  rcases h with h | ⟨s, b, n, e, h⟩
  · exact .inl h
  · exact .inr ⟨s, b, n, e, h.below hb⟩
theorem Looks.get {w : World} {B : Nat} {m : Value} {xs : List ByteArray} {ws : List Int} {L : List Nat} (h : Looks w B m xs ws L) (a : Nat) (ha : a ∈ L) (hb : a ≤ 1048576) : ∃ g c, (∀ w', Below w.heap.size w w' →
    (Instr.lookup 58 m (.int .i64 (a : Int)) false).run Try.prog w' = .ok (.agg #[.int .i64 (ws.getD a 0 % 4), .int .i64 (ws.getD a 0 / 4), .slice (some ⟨g, 0, none⟩) (valsA xs ws a).length c]) w' ∧
    (Instr.lookup 58 m (.int .i64 (a : Int)) true).run Try.prog w' = .ok (.tuple #[.agg #[.int .i64 (ws.getD a 0 % 4), .int .i64 (ws.getD a 0 / 4), .slice (some ⟨g, 0, none⟩) (valsA xs ws a).length c], .bool true]) w') ∧
    B ≤ g ∧ Ints w (some ⟨g, 0, none⟩) g (valsA xs ws a) := by
  rcases h with ⟨_, e⟩ | ⟨s, b, n, rfl, h⟩
  · rw [e] at ha; cases ha
  · exact h.get a ha hb
theorem Looks.miss {w : World} {B : Nat} {m : Value} {xs : List ByteArray} {ws : List Int} {L : List Nat} (h : Looks w B m xs ws L) (p : Int) (hp : inB L p = false) (hw : (Lit.int .i64 p).wf = true) :
    (Instr.lookup 58 m (.int .i64 p) true).run Try.prog w = .ok (.tuple #[.agg #[.int .i64 0, .int .i64 0, .slice none 0 0], .bool false]) w := by
  rcases h with ⟨rfl, _⟩ | ⟨s, b, n, rfl, h⟩
  · exact nil_ok w p hw
  · exact h.miss p hp hw
end Go.Proofs.Ytngpmohmnpbcnaa.nu
