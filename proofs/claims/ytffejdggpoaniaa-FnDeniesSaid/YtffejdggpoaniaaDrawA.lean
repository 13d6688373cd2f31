/-
  Drawn slices of answers; nothing that was there is written but the reader's own place.
-/
import Derived.Test.YtffejdggpoaniaaAns2
import Derived.Test.YtffejdggpoaniaaRd3
import Derived.Deep.AppendLies
import Derived.Deep.WholeRow
namespace Go.Proofs.Ytffejdggpoaniaa.ans
open Go.RowKit
open ints inr rd

theorem gBa {a w w' : World} {R : Nat} (h : a.grownBy w (some R)) (k : Below a.heap.size w w') : a.grownBy w' (some R) :=
  ⟨k.os.trans h.os, k.tape.trans h.tape, k.output.trans h.output, Nat.le_trans h.size k.size, fun i hi hn => (k.block i hi).trans (h.block i hi hn)⟩
theorem own_rdA {w w' : World} {B R : Nat} {v : Value} {n : Nat} {cs : List Value} (h : w.ownsRow B 37 2 v n cs) (hg : w.grownBy w' (some R)) (hR : R < B) : w'.ownsRow B 37 2 v n cs :=
  h.kept hg (by
    cases ho : v.ownBlock with
    | none => exact .inl rfl
    | some b => exact .inr (by have := (h.lt b ho).1; simp; omega))
theorem own_stepA {w w1 : World} {B : Nat} {v : Value} {n : Nat} {cs : List Value} {W : World} (h : w.ownsRow B 37 2 v n cs) (hb : Below B W w) (hB : B ≤ w.heap.size) (hg : w.grownBy w1 v.ownBlock) : Below B W w1 :=
  hb.trans (grown_own hg (fun k hk => (h.lt k hk).1) hB)
/-- One answer more behind a slice that the call owns. -/
theorem wpList_pushA {ops : Array Oper} {rest : List Oper} {o : Oper} {a : Act} {Q : Exit → Act → World → Prop} (X : World) (hgd : o.guard = none) (s x : Operand)
    (ho : o.op = .call { callee := .builtin .append, args := #[s, x], argTypes := #[26, 26] }) (base : Nat) (v : Value) (n : Nat) (xs : List Int) (p q : Int)
    (hown : X.ownsRow base 37 2 v n (xs.map (Value.int .i64))) (hs : a.eval s = v) (hx : a.eval x = .slice (some ⟨X.heap.size, 0, none⟩) 1 1) (hn : n ≤ 1048576) (hbase : base ≤ X.heap.size)
    (h : ∀ g cap w', w'.ownsRow base 37 2 (.slice (some ⟨g, 0, none⟩) (n + 1) cap) (n + 1) ((xs ++ [p, q]).map (Value.int .i64)) → Below base X w' → base ≤ w'.heap.size → wpList Try.prog ops Q rest (a.put o.dst (.slice (some ⟨g, 0, none⟩) (n + 1) cap)) w') :
    wpList Try.prog ops Q (o :: rest) a (X.alloc (.cells #[.int .i64 p, .int .i64 q] 37)) := by
  obtain ⟨i0, hi, hzz⟩ := Option.map_eq_some_iff.1 infoAnswer
  simp only [Prod.mk.injEq] at hzz
  obtain ⟨hz0, hz1, hz2⟩ := hzz
  refine wpList_append_lies _ hgd s x 26 ho base 37 i0 (.agg #[.int .i64 0, .int .i64 0]) 2 16 Try.underlying26 hi hz0 hz1 hz2 rfl (by decide) v n _ hs (hown.alloc _) ⟨X.heap.size, 0, none⟩ 1 1 [.int .i64 p, .int .i64 q] hx rfl ?_ ?_ (by decide) ?_ ?_ ?_ _ rfl ?_
  · intro j u hj
    match j, hj with
    | 0, hj => simp at hj; subst hj; rw [show (⟨X.heap.size, 0, none⟩ : Addr).add 0 = ⟨X.heap.size, 0, none⟩ from rfl, World.cell?_alloc_new]; rfl
    | 1, hj => simp at hj; subst hj; rw [show (⟨X.heap.size, 0, none⟩ : Addr).add 1 = ⟨X.heap.size, 1, none⟩ from rfl, World.cell?_alloc_new]; rfl
  · intro u hu; simp at hu; rcases hu with rfl | rfl <;> rfl
  · unfold maxLen; omega
  · omega
  · simp; omega
  · intro g cap w' hown' hgrow hat hlt
    have hb : Below base X w' := own_stepA (hown.alloc _) ((Below.refl _ _).alloc hbase _) (by simp; omega) hgrow
    exact h g cap w' (by simpa using hown') hb (Nat.le_trans hbase hb.size)
theorem own_open {w : World} {base : Nat} {e : TypeId} {size : Nat} {v : Value} {n : Nat} {xs : List Value} (h : w.ownsRow base e size v n xs) (hn : 0 < n) :
    ∃ g cap, v = .slice (some ⟨g, 0, none⟩) n cap ∧ base ≤ g ∧ (∀ j (hj : j < xs.length), w.cell? ⟨g, j, none⟩ = some xs[j] ∧ w.frozen? ⟨g, j, none⟩ = false) ∧
      (∀ j x, j < xs.length → (w.setCell ⟨g, j, none⟩ x).ownsRow base e size v n (xs.set j x)) := by
  obtain ⟨hl, hh⟩ := h
  rcases hh with ⟨_, h0⟩ | ⟨g, cap, cur, rfl, hb, hg, hc, hcm, hcs, ht⟩
  · omega
  · refine ⟨g, cap, rfl, hb, fun j hj => ?_, fun j x hj => ?_⟩
    · refine ⟨?_, frozen_of_row w g j _ _ hg⟩
      rw [← List.getElem?_eq_getElem hj, cell_of_row w g j cur _ (0, 0) hg, ← ht, List.getElem?_take, if_pos (by omega)]
      simp
    · refine ⟨by simp [hl], .inr ⟨g, cap, cur.setIfInBounds j x, rfl, hb, heap_setCell_same w g j cur e x hg, hc, hcm, by simp [hcs], ?_⟩⟩
      rw [Array.toList_setIfInBounds, List.take_set, ht]
theorem nums_of_rowA {w : World} {base : Nat} {v : Value} {n : Nat} {xs : List Int} (hx : xs.length = n * 2) (h : w.ownsRow base 37 2 v n (xs.map (Value.int .i64))) : ∃ a cap, v = .slice a n cap ∧ Nums w a xs := by
  by_cases h0 : 0 < n
  · obtain ⟨g, cap, rfl, hb, hc, _⟩ := own_open h h0
    refine ⟨_, cap, rfl, fun i hi => ⟨g, 0, rfl, ?_⟩⟩
    have hj : i < (xs.map (Value.int .i64)).length := by rw [List.length_map]; exact hi
    rw [Nat.zero_add, (hc i hj).1]
    simp
  · rcases h.2 with ⟨rfl, h1⟩ | ⟨g, cap, cur, rfl, hb, _⟩
    · exact ⟨none, 0, by rw [h1], fun i hi => by omega⟩
    · exact ⟨_, _, rfl, fun i hi => by omega⟩
theorem made_two (m j : Nat) (h : j < m) : (madeCells #[Value.int .i64 0, .int .i64 0] m)[j]? = some (.int .i64 0) := by
  unfold madeCells
  rcases Nat.mod_two_eq_zero_or_one j with e | e <;> simp [h, e]
theorem madeAns_nums (w : World) (n : Nat) : Nums (madeAns w n) (some ⟨w.heap.size, 0, none⟩) (List.replicate (n * 2) 0) := fun i hi => by
  rw [List.length_replicate] at hi
  refine ⟨w.heap.size, 0, rfl, ?_⟩
  unfold madeAns
  rw [Nat.zero_add, World.cell?_alloc_new]
  simp only [List.getElem_replicate]
  exact made_two _ _ hi
/-- What is drawn. -/
def AnsDrawn (w : World) (e : Ending) (w' : World) : Prop :=
  ∃ (ad : Option Addr) (cp n : Nat), e = .returned (.slice ad n cp) ∧ n ≤ 61 ∧ ∃ xs : List Int, xs.length = n * 2 ∧ Nums w' ad xs ∧ Below w.heap.size w w'
set_option maxHeartbeats 2000000 in
set_option maxRecDepth 20000 in
theorem draw_deny (w : World) (a : Option Addr) (len cap : Nat) (hs : len ≤ 1048576) (hc : RdCode w w.heap.size a len) :
    Calls Try.prog 15 #[.slice a len cap] w fun e w' => AnsDrawn w e w' := by
  have HC : Hid (RdCode w w.heap.size a len) := hc
  clear hc
  go_enter Try.func15, Try.ntmps15
  go_wp2_with fail
  refine (open_any _ a len cap hs HC.out).mono ?_
  rintro e w1 ⟨rfl, hr1, hb1⟩
  have HB1 : Hid (Below w.heap.size w w1) := hb1
  obtain ⟨R, hR⟩ : ∃ R, R = w.heap.size := ⟨_, rfl⟩
  rw [← hR] at hr1 ⊢
  have HRE : Hid (R = w.heap.size) := hR
  have HR0 : Hid (Rd w1 R a len cap) := hr1
  have HRS : Hid (R < w1.heap.size) := hr1.size
  obtain ⟨X, hX⟩ : ∃ X, X = w1.alloc (.cells #[] 37) := ⟨_, rfl⟩
  have HX : Hid (X = w1.alloc (.cells #[] 37)) := hX
  have HRX : Hid (Rd X R a len cap) := by rw [hX]; exact hr1.alloc _
  have HGX : Hid (w1.grownBy X (some R)) := by rw [hX]; exact galloc (grefl _ _) _
  have HOX : Hid (X.ownsRow w1.heap.size 37 2 (.slice (some ⟨w1.heap.size, 0, none⟩) 0 0) 0 (([] : List Int).map (Value.int .i64))) := ⟨rfl, .inr ⟨w1.heap.size, 0, #[], rfl, Nat.le_refl _, by rw [hX]; exact heap_alloc_last w1 _, Nat.le_refl _, Nat.zero_le _, rfl, rfl⟩⟩
  have HEnd : Hid (∀ w', w1.grownBy w' (some R) → Below w.heap.size w w') := fun w' h => below_of HB1.out h (by rw [HRE.out]; exact Nat.le_refl _) HB1.out.size
  clear hr1 hb1 hR hX
  go_wp2_with (rw [← HX.out])
  refine (below_pos _ R a len cap HRX.out 20 (by omega) (by omega)).mono ?_
  rintro e w2 ⟨n0, rfl, hn0, hr2, hb2⟩
  have HR2 : Hid (Rd w2 R a len cap) := hr2
  have HG2 : Hid (w1.grownBy w2 (some R)) := gtrans HGX.out hb2
  have HO2 : Hid (w2.ownsRow w1.heap.size 37 2 (.slice (some ⟨w1.heap.size, 0, none⟩) 0 0) 0 (([] : List Int).map (Value.int .i64))) := own_rdA HOX.out hb2 HRS.out
  clear hr2 hb2
  go_wp2
  go_loopw [4, 5] (fun o i wr => ∃ (n k : Nat) (xs : List Int), i = .int .i64 (n : Int) ∧ n + k ≤ 20 ∧ xs.length = k * 2 ∧ wr.ownsRow w1.heap.size 37 2 o k (xs.map (Value.int .i64)) ∧ Rd wr R a len cap ∧ w1.grownBy wr (some R)) (fun _ i _ => (intOf i).toNat)
  case atStart => exact ⟨n0, 0, [], rfl, by omega, rfl, HO2.out, HR2.out, HG2.out⟩
  case round =>
    obtain ⟨n, k, xs, rfl, hnk, hxk, hown, hr, hg⟩ := hrel
    have HRr : Hid (Rd wr R a len cap) := hr
    have HGr : Hid (w1.grownBy wr (some R)) := hg
    have HOr : Hid (wr.ownsRow w1.heap.size 37 2 u4 k (xs.map (Value.int .i64))) := hown
    have HXK : Hid (xs.length = k * 2) := hxk
    clear hr hg hown hn0 hxk
    by_cases hlt : 0 < n
    · have hlti : (0 : Int) < (n : Int) := by omega
      obtain ⟨m, rfl⟩ : ∃ m, n = m + 1 := ⟨n - 1, by omega⟩
      go_wp2_with fail
      refine (off_any _ R a len cap HRr.out 0 14 (by omega) (by omega) (by omega)).mono ?_
      rintro e w3 ⟨x, rfl, _, hr3, hb3⟩
      have HR3 : Hid (Rd w3 R a len cap) := hr3
      have HG3 : Hid (w1.grownBy w3 (some R)) := gtrans HGr.out hb3
      have HO3 : Hid (w3.ownsRow w1.heap.size 37 2 u4 k (xs.map (Value.int .i64))) := own_rdA HOr.out hb3 HRS.out
      clear hr3 hb3
      go_wp2_with fail
      refine (below_pos _ R a len cap HR3.out 3 (by omega) (by omega)).mono ?_
      rintro e w4 ⟨y, rfl, _, hr4, hb4⟩
      have HR4 : Hid (Rd w4 R a len cap) := hr4
      have HG4 : Hid (w1.grownBy w4 (some R)) := gtrans HG3.out hb4
      have HO4 : Hid (w4.ownsRow w1.heap.size 37 2 u4 k (xs.map (Value.int .i64))) := own_rdA HO3.out hb4 HRS.out
      have hkb : k ≤ 1048576 := by omega
      clear hr4 hb4
      go_wp2_with (refine wpList_pushA w4 (by rfl) _ _ (by rfl) w1.heap.size u4 k xs x (y : Int) HO4.out (by rfl) (by rfl) hkb HG4.out.size ?_; intro g cp w5 hown5 hb5 hs5; have HO5 : Hid (_) := hown5; have HR5 : Hid (Rd w5 R a len cap) := HR4.out.above (hb5.mono (by have := HRS.out; omega)); have HG5 : Hid (w1.grownBy w5 (some R)) := gBa HG4.out hb5; clear hown5 hb5 hs5)
      go_roundw
      case rel => exact ⟨m, k + 1, xs ++ [x, (y : Int)], by go_num, by omega, by have := HXK.out; simp; omega, HO5.out, HR5.out, HG5.out⟩
      case measure => simp [intOf]
    · have hge : ¬ (0 : Int) < (n : Int) := by omega
      have HK20 : Hid (k ≤ 20) := by show k ≤ 20; omega
      clear hnk
      go_wp2_with fail
      refine (once_any _ R a len cap HRr.out 30 (by omega) (by omega)).mono ?_
      rintro e w3 ⟨o, rfl, hr3, hb3⟩
      have HR3 : Hid (Rd w3 R a len cap) := hr3
      have HG3 : Hid (w1.grownBy w3 (some R)) := gtrans HGr.out hb3
      have HO3 : Hid (w3.ownsRow w1.heap.size 37 2 u4 k (xs.map (Value.int .i64))) := own_rdA HOr.out hb3 HRS.out
      clear hr3 hb3
      cases o with
      | false =>
        obtain ⟨ad, cp, rfl, hnu⟩ := nums_of_rowA HXK.out HO3.out
        have HNU : Hid (Nums w3 ad xs) := hnu
        clear hnu
        go_wp2
        go_ret
        exact ⟨ad, cp, k, rfl, by have := HK20.out; omega, xs, HXK.out, HNU.out, HEnd.out _ HG3.out⟩
      | true =>
        go_wp2_with fail
        refine (below_pos _ R a len cap HR3.out 2 (by omega) (by omega)).mono ?_
        rintro e w4 ⟨u, rfl, hu, hr4, hb4⟩
        have HG4 : Hid (w1.grownBy w4 (some R)) := gtrans HG3.out hb4
        clear hr4 hb4
        have hu2 : u = 0 ∨ u = 1 := by omega
        rcases hu2 with rfl | rfl
        · have hmk : (Instr.makeSlice 26 (.int .i64 60) (.int .i64 60)).run Try.prog w4 = .ok (.slice (some ⟨w4.heap.size, 0, none⟩) 60 60) (madeAns w4 60) := run_ans 60 (by omega) w4
          have HNU : Hid (Nums (madeAns w4 60) (some ⟨w4.heap.size, 0, none⟩) (List.replicate (60 * 2) 0)) := madeAns_nums w4 60
          have HE : Hid (Below w.heap.size w (madeAns w4 60)) := HEnd.out _ (galloc HG4.out _)
          generalize madeAns w4 60 = w5 at hmk HNU HE
          go_wp2
          go_ret
          exact ⟨_, 60, 60, rfl, by omega, List.replicate (60 * 2) 0, by simp, HNU.out, HE.out⟩
        · have hmk : (Instr.makeSlice 26 (.int .i64 61) (.int .i64 61)).run Try.prog w4 = .ok (.slice (some ⟨w4.heap.size, 0, none⟩) 61 61) (madeAns w4 61) := run_ans 61 (by omega) w4
          have HNU : Hid (Nums (madeAns w4 61) (some ⟨w4.heap.size, 0, none⟩) (List.replicate (61 * 2) 0)) := madeAns_nums w4 61
          have HE : Hid (Below w.heap.size w (madeAns w4 61)) := HEnd.out _ (galloc HG4.out _)
          generalize madeAns w4 61 = w5 at hmk HNU HE
          go_wp2
          go_ret
          exact ⟨_, 61, 61, rfl, by omega, List.replicate (61 * 2) 0, by simp, HNU.out, HE.out⟩
end Go.Proofs.Ytffejdggpoaniaa.ans
