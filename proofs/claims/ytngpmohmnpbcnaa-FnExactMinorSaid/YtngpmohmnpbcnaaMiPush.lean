/-
  Whole numbers put behind a row of one's own, in a region that draws its order; what one object that is kept turns into, by the program.
-/
import Derived.Test.YtngpmohmnpbcnaaMiRefs
import Derived.Test.YtngpmohmnpbcnaaMiWords
import Derived.Test.YtngpmohmnpbcnaaFwd4
import Derived.Deep.RegionLaw
namespace Go.Proofs.Ytngpmohmnpbcnaa.mi
open Go.RowKit
open kinds ints ref obj nu cl

theorem step_pushV {ops : Array Oper} {o : Oper} {a : Act} {K : Act → World → Prop} {Q : Exit → Act → World → Prop} {E : Prop} (X : World) (hgd : o.guard = none) (s x : Operand)
    (ho : o.op = .call { callee := .builtin .append, args := #[s, x], argTypes := #[23, 23] }) (base : Nat) (v : Value) (n0 : Nat) (xs : List Int) (a1 : Option Addr) (n1 c1 : Nat) (ys : List Int) (hx0 : xs.length = n0) (hy : ys.length = n1) (hpos : 0 < n1)
    (hown : X.ownsRow base 2 1 v n0 (xs.map (Value.int .i64))) (hs : a.eval s = v) (hx : a.eval x = .slice a1 n1 c1) (hnu : Nums X a1 ys) (hn : n0 ≤ 1048576) (hn1 : n1 ≤ 1048576) (hbase : base ≤ X.heap.size)
    (h : ∀ g cap w', w'.ownsRow base 2 1 (.slice (some ⟨g, 0, none⟩) (n0 + n1) cap) (xs ++ ys).length ((xs ++ ys).map (Value.int .i64)) → Below base X w' → base ≤ w'.heap.size → K (a.put o.dst (.slice (some ⟨g, 0, none⟩) (n0 + n1) cap)) w') :
    if Region.wanted o (yielded ops a.tmps) = true then Oper.wp Try.prog o a X K Q else E := by
  obtain ⟨i0, hi, hzz⟩ := Option.map_eq_some_iff.1 infoInt64
  simp only [Prod.mk.injEq] at hzz
  obtain ⟨hz0, hz1, hz2⟩ := hzz
  obtain ⟨b, off, rfl, hx9⟩ := hnu 0 (by omega)
  clear hx9
  refine step_append_lies X hgd s x 23 ho base 2 i0 (.int .i64 0) 1 8 Try.underlying23 hi hz0 hz1 hz2 rfl (by decide) v n0 _ hs hown ⟨b, off, none⟩ n1 c1 (ys.map (Value.int .i64)) hx (by rw [List.length_map, hy]; omega) ?_ ?_ (by omega) (by unfold maxLen; omega) (by omega) hbase _ rfl ?_
  · intro j u hj
    rw [List.getElem?_map] at hj
    obtain ⟨y, hy', rfl⟩ := Option.map_eq_some_iff.1 hj
    obtain ⟨hj', rfl⟩ := List.getElem?_eq_some_iff.1 hy'
    obtain ⟨b', off', e, hc⟩ := hnu j hj'
    simp only [Option.some.injEq, Addr.mk.injEq, and_true] at e
    obtain ⟨rfl, rfl⟩ := e
    have hadd : (⟨b, off, none⟩ : Addr).add j = ⟨b, off + j, none⟩ := by unfold Addr.add; split <;> simp_all
    rw [hadd]
    exact hc
  · intro u hu
    obtain ⟨y, _, rfl⟩ := List.mem_map.1 hu
    rfl
  · intro g cap w' hown' hgrow hat hlt
    have hb : Below base X w' := own_step hown ((Below.refl _ _).mono hbase) hbase hgrow
    refine h g cap w' ?_ hb (Nat.le_trans hbase hb.size)
    rw [List.length_append, hx0, hy, List.map_append]
    exact hown'
theorem step_pushG {ops : Array Oper} {o : Oper} {a : Act} {K : Act → World → Prop} {Q : Exit → Act → World → Prop} {E : Prop} (X : World) (hgd : o.guard = none) (s x : Operand)
    (ho : o.op = .call { callee := .builtin .append, args := #[s, x], argTypes := #[23, 23] }) (base : Nat) (v : Value) (xs : List Int) (y : Int)
    (hown : X.ownsRow base 2 1 v xs.length (xs.map (Value.int .i64))) (hs : a.eval s = v) (hx : a.eval x = .slice (some ⟨X.heap.size, 0, none⟩) 1 1) (hn : xs.length ≤ 1048576) (hbase : base ≤ X.heap.size)
    (h : ∀ g cap w', w'.ownsRow base 2 1 (.slice (some ⟨g, 0, none⟩) (xs.length + 1) cap) (xs.length + 1) ((xs ++ [y]).map (Value.int .i64)) → X.grownBy w' v.ownBlock → Below base X w' → base ≤ w'.heap.size → K (a.put o.dst (.slice (some ⟨g, 0, none⟩) (xs.length + 1) cap)) w') :
    if Region.wanted o (yielded ops a.tmps) = true then Oper.wp Try.prog o a (X.alloc (.cells #[.int .i64 y] 2)) K Q else E := by
  obtain ⟨i0, hi, hzz⟩ := Option.map_eq_some_iff.1 infoInt64
  simp only [Prod.mk.injEq] at hzz
  obtain ⟨hz0, hz1, hz2⟩ := hzz
  refine step_append_lies _ hgd s x 23 ho base 2 i0 (.int .i64 0) 1 8 Try.underlying23 hi hz0 hz1 hz2 rfl (by decide) v xs.length _ hs (hown.alloc _) ⟨X.heap.size, 0, none⟩ 1 1 [.int .i64 y] hx rfl ?_ ?_ (by decide) ?_ ?_ ?_ _ rfl ?_
  · intro j u hj
    match j, hj with
    | 0, hj => simp at hj; subst hj; rw [show (⟨X.heap.size, 0, none⟩ : Addr).add 0 = ⟨X.heap.size, 0, none⟩ from rfl, World.cell?_alloc_new]; rfl
  · intro u hu; simp at hu; subst hu; rfl
  · unfold maxLen; omega
  · omega
  · simp; omega
  · intro g cap w' hown' hgrow hat hlt
    have hb : Below base X w' := own_step (hown.alloc _) ((Below.refl _ _).alloc hbase _) (by simp; omega) hgrow
    exact h g cap w' (by simpa using hown') (grown_trans (grown_below _ ((Below.refl _ _).alloc (Nat.le_refl _) _)) hgrow) hb (Nat.le_trans hbase hb.size)
theorem own_lt {w : World} {B : Nat} {v : Value} {n : Nat} {xs : List Value} (h : w.ownsRow B 2 1 v n xs) : ∀ r, v.ownBlock = some r → r < w.heap.size := by
  intro r hr
  rcases h.2 with ⟨q, _⟩ | ⟨g, cap, cur, rfl, hg0, hg, _⟩
  · rw [q] at hr; cases hr
  · have : g = r := by simpa [Value.ownBlock] using hr
    subst this
    rcases Nat.lt_or_ge g w.heap.size with q | q
    · exact q
    · rw [Array.getElem?_eq_none q] at hg; cases hg
theorem fw_at {xs : List ByteArray} {ws : List Int} {L : List Nat} {P : List Int} (h : Kept xs ws L P) (ht : typesOk xs = true) (hn : namesB xs ws L L = true) (aa : Nat) (ha : aa ∈ L) (w : World) (a : Option Addr) (cap : Nat) (b : Option Addr) (vcap : Nat) (c d : Option Addr) (cc cd : Nat) (h23 : ∀ i (hi : i < xs.length), 1 ≤ xs[i].size ∧ xs[i].size ≤ 23) (hxn : xs.length ≤ 1048576) (hh : ∀ x ∈ ws, x < 9223372036854775808) (hl : Strs w a xs) (hvs : Nums w b (valsA xs ws aa)) (hc : Nums w c (P.map odd)) (hd : Nums w d (newK xs ws P P.length)) :
    Calls Try.prog 46 #[.slice a xs.length cap, .agg #[.int .i64 (ws.getD aa 0 / 4), .slice b (valsA xs ws aa).length vcap], .slice c P.length cc, .slice d P.length cd] w fun e w' => FOut (ws.getD aa 0 / 4) (valsA xs ws aa).length (fwdL (fwd (P.map odd) (newK xs ws P P.length)) (kdH xs (ws.getD aa 0)) (valsA xs ws aa) (valsA xs ws aa).length) w e w' := by
  have hf := fwB_at h ht hn ha
  have hl4 := h.len
  have := impl_forward w a cap xs (ws.getD aa 0 / 4) b vcap (valsA xs ws aa) c d cc cd (P.map odd) (newK xs ws P P.length) hxn (fun i hi => by have := (h23 i hi).2; omega) hl hvs (fun x hx => hh x (by
    unfold valsA at hx
    exact List.mem_of_mem_drop (List.mem_of_mem_take hx))) (by rw [List.length_map]; omega) (by rw [newK_len]; omega) hc hd (fun x hx => by have := h.ref P.length (Nat.le_refl _) x hx; omega)
  rw [List.length_map, newK_len] at this
  rw [show fwT xs (ws.getD aa 0 / 4) (valsA xs ws aa) (P.map odd) (newK xs ws P P.length) = ws.getD aa 0 / 4 by unfold fwT; rw [hf]; rfl,
    show fwV xs (ws.getD aa 0 / 4) (valsA xs ws aa) (P.map odd) (newK xs ws P P.length) = fwdL (fwd (P.map odd) (newK xs ws P P.length)) (kdH xs (ws.getD aa 0)) (valsA xs ws aa) (valsA xs ws aa).length by unfold fwV; rw [hf]; rfl] at this
  rw [fwdL_len] at this
  exact this
end Go.Proofs.Ytngpmohmnpbcnaa.mi
