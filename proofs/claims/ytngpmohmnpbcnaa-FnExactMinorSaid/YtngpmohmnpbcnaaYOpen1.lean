/-
  An open nursery as it is made: its beginnings' slice grows, its map grows.
-/
import Derived.Test.YtngpmohmnpbcnaaYNam
import Derived.Test.YtngpmohmnpbcnaaYFirst
namespace Go.Proofs.Ytngpmohmnpbcnaa.nu
open Go.RowKit Go.Maps
open kinds ints ref obj

theorem drop_getD (ws : List Int) (a k : Nat) : (ws.drop a).getD k 0 = ws.getD (a + k) 0 := by
  rw [List.getD_eq_getElem?_getD, List.getD_eq_getElem?_getD, List.getElem?_drop]
theorem step_drop (xs : List ByteArray) (ws : List Int) (a : Nat) (h : a ≤ ws.length) : stepN xs (ws.drop a) 0 = stepN xs ws a := by
  unfold stepN
  rw [drop_getD, Nat.add_zero, List.length_drop]
  by_cases q : 0 ≤ ws.getD a 0 ∧ placeB xs.length (ws.getD a 0 / 4) = true ∧ a + 1 + (kdH xs (ws.getD a 0)).size ≤ ws.length
  · rw [if_pos q, if_pos ⟨q.1, q.2.1, by omega⟩]
  · rw [if_neg q, if_neg (fun z => q ⟨z.1, z.2.1, by omega⟩)]
theorem vals_drop (xs : List ByteArray) (ws : List Int) (a : Nat) : valsA xs (ws.drop a) 0 = valsA xs ws a := by
  unfold valsA
  rw [drop_getD, Nat.add_zero, List.drop_drop]
theorem run_tail (W : World) (b o len cap l : Nat) (h : l < len) (hc : len ≤ cap) :
    (Instr.slice 23 (.slice (some ⟨b, o, none⟩) len cap) (some (.int .i64 (l : Int))) none none).run Try.prog W = .ok (.slice (some ⟨b, o + l, none⟩) (len - l) (cap - l)) W := by
  have ht' : Try.prog.underlying 23 = some (.slice (Try.prog.elem 23)) := by simp [Program.elem, Try.underlying23]
  have he : Try.prog.elem 23 = 2 := by simp [Program.elem, Try.underlying23]
  rw [run_slice_l W 23 _ _ _ ht' .i64 _ (by omega) (by omega), he, oneInt]
  have h0 : ¬ cap = l := by omega
  by_cases h1 : l = 0
  · subst h1; simp [Result.andThen, sliced, Addr.add, h0]
  · simp [Result.andThen, sliced, Addr.add, h0, h1]
theorem infoWord : (Try.prog.info? 69).map (fun i => (i.zero, i.size, i.bytes)) = some (some (.int .i64 0), 1, 8) := by kernel_rfl
/-- One word more behind the beginnings. -/
theorem wpList_pushY {ops : Array Oper} {rest : List Oper} {o : Oper} {a : Act} {Q : Exit → Act → World → Prop} (X : World) (hgd : o.guard = none) (s x : Operand)
    (ho : o.op = .call { callee := .builtin .append, args := #[s, x], argTypes := #[57, 57] }) (base : Nat) (v : Value) (n : Nat) (xs : List Value) (y : Int)
    (hown : X.ownsRow base 69 1 v n xs) (hs : a.eval s = v) (hx : a.eval x = .slice (some ⟨X.heap.size, 0, none⟩) 1 1) (hn : n ≤ 1048576) (hbase : base ≤ X.heap.size)
    (h : ∀ g cap w', w'.ownsRow base 69 1 (.slice (some ⟨g, 0, none⟩) (n + 1) cap) (n + 1) (xs ++ [.int .i64 y]) → X.grownBy w' v.ownBlock → (v.ownBlock = some g ∨ X.heap.size ≤ g) → g < w'.heap.size → wpList Try.prog ops Q rest (a.put o.dst (.slice (some ⟨g, 0, none⟩) (n + 1) cap)) w') :
    wpList Try.prog ops Q (o :: rest) a (X.alloc (.cells #[.int .i64 y] 69)) := by
  obtain ⟨i0, hi, hzz⟩ := Option.map_eq_some_iff.1 infoWord
  simp only [Prod.mk.injEq] at hzz
  obtain ⟨hz0, hz1, hz2⟩ := hzz
  refine wpList_append_lies _ hgd s x 57 ho base 69 i0 (.int .i64 0) 1 8 Try.underlying57 hi hz0 hz1 hz2 rfl (by decide) v n _ hs (hown.alloc _) ⟨X.heap.size, 0, none⟩ 1 1 [.int .i64 y] hx rfl ?_ ?_ (by decide) ?_ ?_ ?_ _ rfl ?_
  · intro j u hj
    match j, hj with
    | 0, hj => simp at hj; subst hj; rw [show (⟨X.heap.size, 0, none⟩ : Addr).add 0 = ⟨X.heap.size, 0, none⟩ from rfl, World.cell?_alloc_new]; rfl
  · intro u hu; simp at hu; subst hu; rfl
  · unfold maxLen; omega
  · omega
  · simp; omega
  · intro g cap w' hown' hgrow hat hlt
    refine h g cap w' hown' (grown_trans (grown_below _ ((Below.refl _ _).alloc (Nat.le_refl _) _)) hgrow) ?_ hlt
    rcases hat with q | q
    · exact .inl q
    · right; rw [q]; simp
/-- What the loop over the words keeps: the variable, its beginnings, its map. -/
structure Making (W wr : World) (ob mb B s : Nat) (T v : Value) (xs : List ByteArray) (ws : List Int) (L : List Nat) : Prop where
  tri : Tri ob T v (.map (some mb)) wr
  row : wr.ownsRow B 69 1 v L.length ((numsOf L).map (Value.int .i64))
  own : ∀ k, v.ownBlock = some k → k = s
  slt : s < wr.heap.size
  objs : Objs wr B s mb L.length xs ws L
  bel : Below W.heap.size W wr
  siz : B ≤ wr.heap.size
  obB : ob < B
  mbB : mb < B
  obW : W.heap.size ≤ ob
  mbW : W.heap.size ≤ mb
  ne : mb ≠ ob
theorem row_kept {w w' : World} {B : Nat} {e : TypeId} {size : Nat} {v : Value} {n : Nat} {xs : List Value} {row : Option Nat} (h : w.ownsRow B e size v n xs) (hg : w.grownBy w' row) (hr : ∀ k r, v.ownBlock = some k → row = some r → k ≠ r) : w'.ownsRow B e size v n xs :=
  h.kept hg (by
    rcases hv : v.ownBlock with _ | k
    · exact .inl rfl
    · exact .inr (fun q => hr k k hv q.symm rfl))
theorem Making.later {W wr w' : World} {ob mb B s : Nat} {T v : Value} {xs : List ByteArray} {ws : List Int} {L : List Nat} (h : Making W wr ob mb B s T v xs ws L) (hb : Below wr.heap.size wr w') : Making W w' ob mb B s T v xs ws L where
  tri := h.tri.below hb
  row := own_below h.row hb
  own := h.own
  slt := Nat.lt_of_lt_of_le h.slt hb.size
  objs := h.objs.below hb
  bel := h.bel.trans (hb.mono h.bel.size)
  siz := Nat.le_trans h.siz hb.size
  obB := h.obB
  mbB := h.mbB
  obW := h.obW
  mbW := h.mbW
  ne := h.ne
/-- Between the two: the slice has one more, the map has not. -/
structure Half (W wr : World) (ob mb B s : Nat) (T v : Value) (xs : List ByteArray) (ws : List Int) (L : List Nat) (a : Nat) (yb : Nat) (y0 y1 y2 : Value) : Prop where
  tri : Tri ob T v (.map (some mb)) wr
  row : wr.ownsRow B 69 1 v (L ++ [a]).length ((numsOf (L ++ [a])).map (Value.int .i64))
  own : ∀ k, v.ownBlock = some k → k = s
  slt : s < wr.heap.size
  objs : Objs wr B s mb L.length xs ws L
  bel : Below W.heap.size W wr
  siz : B ≤ wr.heap.size
  obB : ob < B
  mbB : mb < B
  obW : W.heap.size ≤ ob
  mbW : W.heap.size ≤ mb
  ne : mb ≠ ob
  sB : B ≤ s
  box : Tri yb y0 y1 y2 wr
  boxB : B ≤ yb
theorem Making.push {W Y w6 : World} {ob mb B s : Nat} {T v : Value} {xs : List ByteArray} {ws : List Int} {L : List Nat} (h : Making W Y ob mb B s T v xs ws L) {a yb : Nat} {y0 y1 y2 : Value} (hbx : Tri yb y0 y1 y2 Y) (hyb : B ≤ yb) (hys : yb ≠ s) {y : Yg} (hy : YIs Y B s xs ws a y)
    {g cap : Nat} (hrow : w6.ownsRow B 69 1 (.slice (some ⟨g, 0, none⟩) (L.length + 1) cap) (L.length + 1) ((numsOf L).map (Value.int .i64) ++ [.int .i64 (a : Int)])) (hg : Y.grownBy w6 v.ownBlock) (hgs : v.ownBlock = some g ∨ Y.heap.size ≤ g) (hlt : g < w6.heap.size) :
    Tri ob T v (.map (some mb)) w6 ∧ Half W (w6.setCell ⟨ob, 1, none⟩ (.slice (some ⟨g, 0, none⟩) (L.length + 1) cap)) ob mb B g T (.slice (some ⟨g, 0, none⟩) (L.length + 1) cap) xs ws L a yb y0 y1 y2 ∧ YIs (w6.setCell ⟨ob, 1, none⟩ (.slice (some ⟨g, 0, none⟩) (L.length + 1) cap)) B g xs ws a y := by
  have hgB : B ≤ g := by
    rcases hgs with q | q
    · exact (h.row.lt g q).1
    · exact Nat.le_trans h.siz q
  have hsg : g = s ∨ Y.heap.size ≤ g := by
    rcases hgs with q | q
    · exact .inl (h.own g q)
    · exact .inr q
  have hrw : ∀ r, v.ownBlock = some r → r < B ∨ r = s := fun r q => .inr (h.own r q)
  have hvB : ∀ r, v.ownBlock = some r → B ≤ r := fun r q => (h.row.lt r q).1
  have hset := grown_set w6 ob 1 (.slice (some ⟨g, 0, none⟩) (L.length + 1) cap)
  have hob : ∀ r, some ob = some r → r < B ∨ r = g := fun r q => .inl (by cases q; exact h.obB)
  have hob2 : ∀ r, some ob = some r → mb ≠ r := fun r q => by cases q; exact h.ne
  have hmv : ∀ r, v.ownBlock = some r → mb ≠ r := fun r q => by have := hvB r q; have := h.mbB; omega
  have htri : Tri ob T v (.map (some mb)) w6 := by
    rcases hv : v.ownBlock with _ | k
    · rw [hv] at hg
      have hbk := hg.block ob h.tri.lt (by simp)
      exact ⟨by rw [World.cell?_of_block (a := ⟨ob, 0, none⟩) hbk]; exact h.tri.c0, by rw [World.cell?_of_block (a := ⟨ob, 1, none⟩) hbk]; exact h.tri.c1, by rw [World.cell?_of_block (a := ⟨ob, 2, none⟩) hbk]; exact h.tri.c2, fun k => by rw [World.frozen?_of_block (a := ⟨ob, k, none⟩) hbk]; exact h.tri.free k⟩
    · rw [hv] at hg
      exact h.tri.grown hg (by have := hvB k hv; have := h.obB; omega)
  have hbx6 : Tri yb y0 y1 y2 w6 := by
    rcases hv : v.ownBlock with _ | k
    · rw [hv] at hg
      have hbk := hg.block yb hbx.lt (by simp)
      exact ⟨by rw [World.cell?_of_block (a := ⟨yb, 0, none⟩) hbk]; exact hbx.c0, by rw [World.cell?_of_block (a := ⟨yb, 1, none⟩) hbk]; exact hbx.c1, by rw [World.cell?_of_block (a := ⟨yb, 2, none⟩) hbk]; exact hbx.c2, fun k => by rw [World.frozen?_of_block (a := ⟨yb, k, none⟩) hbk]; exact hbx.free k⟩
    · rw [hv] at hg
      exact hbx.grown hg (by have := h.own k hv; omega)
  have hb6 : Below B Y w6 := grown_own hg (fun k hk => hvB k hk) h.siz
  refine ⟨htri, ⟨htri.set1 _, ?_, fun k q => by simpa [Value.ownBlock] using q.symm, by simpa using hlt, ?_, ?_, ?_, h.obB, h.mbB, h.obW, h.mbW, h.ne, hgB, hbx6.aside _ (by have := h.obB; omega), hyb⟩, ?_⟩
  · rw [numsOf_snoc, List.map_append, List.length_append]
    exact row_kept hrow hset (fun k r q z => by
      have : k = g := by simpa [Value.ownBlock] using q.symm
      cases z; have := h.obB; omega)
  · exact (h.objs.move hg hrw hmv hsg).kept hset hob hob2
  · exact (h.bel.trans (hb6.mono (by have := h.obW; have := h.obB; omega))).setCell (p := ⟨ob, 1, none⟩) h.obW _
  · have := Nat.le_trans h.siz hg.size
    simpa using this
  · exact (hy.move hg hrw hsg).kept hset hob
theorem Half.close {W w7 w8 : World} {ob mb B s : Nat} {T v : Value} {xs : List ByteArray} {ws : List Int} {L : List Nat} {a yb : Nat} {y0 y1 y2 : Value} (h : Half W w7 ob mb B s T v xs ws L a yb y0 y1 y2) {f : Int → Option Yg} {y : Yg} (h2 : ∀ p, (f p).isSome = inB L p) (h3 : ∀ a ∈ L, ∃ y, f (a : Int) = some y ∧ YIs w7 B s xs ws a y) (hy : YIs w7 B s xs ws a y) (ha : a ∉ L)
    (hm : MapIs w8 mb (L.length + 1) (upd f (a : Int) (some y))) (hg : w7.grownBy w8 (some mb)) : Making W w8 ob mb B s T v xs ws (L ++ [a]) ∧ Tri yb y0 y1 y2 w8 := by
  refine ⟨⟨h.tri.grown hg (fun q => h.ne q.symm), row_kept h.row hg (fun k r q z => ?_), h.own, Nat.lt_of_lt_of_le h.slt hg.size, ?_, ?_, Nat.le_trans h.siz hg.size, h.obB, h.mbB, h.obW, h.mbW, h.ne⟩, h.box.grown hg (by have := h.boxB; have := h.mbB; omega)⟩
  · have := h.own k q
    have := h.sB
    have := h.mbB
    cases z
    omega
  · have h9 := Objs.put h2 h3 hy ha hm hg h.mbB
    rw [List.length_append]
    exact h9
  · exact h.bel.trans ((below_of_grown hg (B := mb) (by have := h.mbB; have := h.siz; omega) (Nat.le_refl _)).mono h.mbW)
end Go.Proofs.Ytngpmohmnpbcnaa.nu
