/-
  The young words of a set: the program's.
-/
import Derived.Test.YtjdlphebnhkghaaYwE
namespace Go.Proofs.Ytjdlphebnhkghaa.yw
open Go.RowKit Go.Shelf
open wmath num ints ref
attribute [local go_sem] Oper.semAt_some

theorem row_lower {w : World} {B B' e z : Nat} {v : Value} {n : Nat} {xs : List Value} (h : w.ownsRow B e z v n xs) (hB : B' ≤ B) : w.ownsRow B' e z v n xs := by
  refine ⟨h.1, ?_⟩
  rcases h.2 with q | ⟨g, cap, cur, e, hg0, r⟩
  · exact .inl q
  · exact .inr ⟨g, cap, cur, e, by omega, r⟩
theorem upto_vals (s : ByteArray) (xs : List Int) (n : Nat) : (upto s xs n).map (fun p => Value.int .i64 p.1.2) = (ywK s xs n).map (Value.int .i64) := by
  induction n with
  | zero => rfl
  | succ n ih => rw [upto_succ, List.map_append, ih, ywK, List.map_append]; rfl
set_option maxRecDepth 100000 in
set_option maxHeartbeats 400000 in
theorem impl_young (w : World) (s : ByteArray) (a : Option Addr) (cap : Nat) (xs : List Int) (hs : s.size ≤ 1048576) (hn : xs.length ≤ 1048576) (hl : Nums w a xs) :
    Calls Try.prog 13 #[.string s, .slice a xs.length cap] w fun e w' => YwAns s xs w e w' ∧ Below w.heap.size w w' := by
  have HR : ∀ w', w' = w → Calls Try.prog 30 #[.string s, .slice a xs.length cap] w' fun e w'' => e = .returned (.bool (ywOk s xs)) ∧ Below w'.heap.size w' w'' := fun w' q => remembers_any w' s a cap xs hs hn (q ▸ hl)
  cases hok : ywOk s xs with
  | false =>
    rw [hok] at HR
    have HNO : Hid (∀ w', Below w.heap.size w w' → YwAns s xs w (.returned (.tuple #[.slice none 0 0, .bool false])) w') := fun w' hb => yw_no hok hb
    generalize YwAns s xs w = P at HNO ⊢
    generalize xs.length = n at HR ⊢
    clear hok hl hn
    refine (callsIn_wide (n := 5)).1 ?_
    refine callsIn_of_wp_marks Try.func13 rfl trivial ?_ rfl
    simp only [Try.ntmps13, List.size_toArray, List.length_cons, List.length_nil, Nat.reduceAdd, Nat.reduceSub, Array.replicate_succ, Array.replicate_zero, List.push_toArray, List.append_toArray, List.nil_append, List.cons_append]
    gi_wp2_with fail
    refine ⟨trivial, ?_⟩
    refine (callsIn_wide.2 (HR w rfl)).mono ?_
    rintro e w1 ⟨rfl, hb1⟩
    gi_wp2
    refine ⟨.tuple #[.slice none 0 0, .bool false], ?_, HNO.out _ hb1, hb1⟩
    simp [results, Try.results13, go_sem]
  | true =>
    rw [hok] at HR
    have HOK : Hid (ywOk s xs = true) := hok
    have hok2 := hok
    unfold ywOk at hok2
    rw [Bool.and_eq_true, Bool.and_eq_true, ywB_two, Bool.and_eq_true] at hok2
    have hx : ∀ k, k < xs.length → 0 ≤ xs.getD k 0 ∧ 8 * xs.getD k 0 + 8 ≤ (s.size : Int) := fun k hk => ⟨(riseN_in xs 1023 hok2.1 k hk).1, fit_all s xs xs.length hok2.2.2.1 k hk⟩
    obtain ⟨n, hnn⟩ : ∃ n, n = xs.length := ⟨_, rfl⟩
    have HNN : Hid (n = xs.length) := hnn
    rw [← hnn] at HR ⊢
    clear hnn hok hok2
    refine (callsIn_wide (n := 5)).1 ?_
    refine callsIn_of_wp_marks Try.func13 rfl trivial ?_ rfl
    simp only [Try.ntmps13, List.size_toArray, List.length_cons, List.length_nil, Nat.reduceAdd, Nat.reduceSub, Array.replicate_succ, Array.replicate_zero, List.push_toArray, List.append_toArray, List.nil_append, List.cons_append]
    gi_wp2_with fail
    refine ⟨trivial, ?_⟩
    refine (callsIn_wide.2 (HR w rfl)).mono ?_
    rintro e w1 ⟨rfl, hb1⟩
    clear HR
    gi_wp2_with fail
    refine ⟨trivial, ?_⟩
    refine (wordsOf_in _ _ _ _ _ _).mono ?_
    rintro e w3 ⟨rfl, hw3⟩
    gi_wp2_with fail
    obtain ⟨X, hX⟩ : ∃ X, X = ((w1.alloc (.cells #[.slice none 0 0] 22)).alloc (.cells #[.string s] 9)).alloc (.cells #[.slice a n cap] 22) := ⟨_, rfl⟩
    rw [← hX]
    obtain ⟨B, hB0⟩ : ∃ B, B = w1.heap.size := ⟨_, rfl⟩
    have hXs : X.heap.size = B + 3 := by rw [hX, hB0]; simp
    have hBX : Below w1.heap.size w1 X := by rw [hX]; exact (((Below.refl _ _).alloc (Nat.le_refl _) _).alloc (by simp) _).alloc (by simp; omega) _
    have hwX : Below w.heap.size w X := hb1.trans (hBX.mono hb1.size)
    have hwB : w.heap.size ≤ B := by rw [hB0]; exact hb1.size
    have bO : Boxed X B 22 (.slice none 0 0) := by rw [hX, hB0]; exact ((Boxed.new w1 _ _).alloc _).alloc _
    have hXi : X.cell? ⟨B + 1, 0, none⟩ = some (.string s) := by
      rw [hX, hB0, World.cell?_alloc_past _ _ _ (by simp), World.cell?_alloc_at _ _ _ _ (by simp)]; rfl
    have hXw : X.cell? ⟨B + 1 + 1, 0, none⟩ = some (.slice a n cap) := by rw [hX, hB0, World.cell?_alloc_at _ _ _ _ (by simp)]; rfl
    rw [← hB0]
    have hNN := HNN.out
    subst hNN
    obtain ⟨i0, hi, hz⟩ := Option.map_eq_some_iff.1 infoInt64
    simp only [Prod.mk.injEq] at hz
    obtain ⟨hz0, hz1, hz2⟩ := hz
    clear hX hw3 hBX hb1 hB0
    refine wpIn_rangeFunc_ownG rfl (by omega) (gf := 60) (lb := #[.pointer (some ⟨B + 1 + 1, 0, none⟩), .pointer (some ⟨B + 1, 0, none⟩)]) rfl trivial (enters_of Try.func60 (by kernel_rfl) rfl)
      (words_stops _ (by omega) (B + 1 + 1) (B + 1) X.heap.size B a cap s xs hn hs hx X hXw hXi (fun h0 b off e => by
        obtain ⟨b', off', e', hc⟩ := hl 0 h0
        rw [e] at e'; cases e'
        have := World.block_lt_of_cell? w _ hc
        have h3 : b < w.heap.size := this
        exact ⟨by omega, by omega⟩) ⟨by omega, by omega⟩ (hl.below hwX)) Kq.trans (Kq.put (Nat.le_refl _)) (Below.refl _ _) (fun _ => rfl)
      (fun pre W => (∃ v, Boxed W B 22 v ∧ W.ownsRow X.heap.size 2 1 v pre.length (pre.map fun p => Value.int .i64 p.1.2) ∧ True) ∧ X.heap.size ≤ W.heap.size ∧ Below w.heap.size w W)
      (fun _ _ _ => False)
      (OwnFrom.and (Own.from (holdsRow_own X.heap.size B 22 2 1 (fun pre : List Wd => pre.length) (fun pre => pre.map fun p => Value.int .i64 p.1.2) (fun _ _ => True)) _) (OwnFrom.and (Own.from (fun s A B row hs hg hr => Nat.le_trans hs hg.size) _) (ownFrom_below (Nat.le_refl _) hwX.size)))
      (fun _ _ _ _ _ hs _ _ => hs)
      ⟨⟨_, bO, World.ownsRow_nil _ _ _ _, trivial⟩, Nat.le_refl _, hwX⟩
      (fun x => { tmps := #[.string s, .slice a xs.length cap, undef, undef, .slice none 0 0, .bool false, .pointer (some ⟨B, 0, none⟩), undef, .int .i64 x.1.2, .string s, .slice a xs.length cap, .bool true, .bool false, .string s, .slice a xs.length cap, .func (.func 60) #[] #[.pointer (some ⟨B + 1 + 1, 0, none⟩), .pointer (some ⟨B + 1, 0, none⟩)], .int .i64 x.1.1, .int .i64 x.1.2, undef, undef, undef, undef, undef], defers := [] }) ?assign ?body ?done ?stop
    case assign =>
      clear hXs
      intro l x W K hK
      gi_wp2
      exact hK
    case body =>
      clear hXs
      rintro l pre x W ⟨⟨v, hv, hrow, _⟩, hsz, hB⟩ hlt
      have hc := hv.cell
      gi_wp2_with (gi_at_builtin; refine wpListIn_append_own _ rfl _ _ 22 rfl X.heap.size 2 i0 (.int .i64 0) 1 8 Try.underlying22 hi hz0 hz1 hz2 rfl (by decide) _ _ _ rfl (hrow.alloc _) ⟨W.heap.size, 0, none⟩ 1 1 [.int .i64 x.1.2] rfl rfl (cell_one_new _ _ _) (by simp [Value.oneCell']) (by unfold maxLen; omega) (by omega) (by simp; omega) ?_; intro v' w2 hown' hgrow _; obtain ⟨g', cap', rfl⟩ := ownsRow_succ hown'; have hkp := (hv.appended (n₀ := 0) (by decide) (row_lower hrow (Nat.zero_le _)) (Nat.zero_le _) (Nat.zero_le _) (row_lower hown' (Nat.zero_le _)) hgrow).2.2.2.1; have hv1 : Boxed w2 B 22 v := (hv.alloc _).kept hgrow (hv.not_row (by decide) hrow); have hv2 := hv1.set (.slice (some ⟨g', 0, none⟩) (pre.length + 1) cap'); have hr2 := hown'.kept (grownBy_setCell' w2 B (.slice (some ⟨g', 0, none⟩) (pre.length + 1) cap')) (.inr (hv1.not_row (by decide) hown').symm); have hb2 : Below X.heap.size W w2 := own_step (hrow.alloc _) ((Below.refl _ _).alloc hsz _) (by simp; omega) hgrow; have hc1 := hv1.cell; have hf1 := hv1.frozen)
      have hkq : Kq X.heap.size B W (w2.setCell ⟨B, 0, none⟩ (.slice (some ⟨g', 0, none⟩) (pre.length + 1) cap')) := fun k hk hkr => by
        rw [Below.heap_setCell _ _ _ _ hkr]; exact hb2.block k hk
      exact ⟨hkp.from _, hkq, ⟨⟨_, hv2, by rw [List.length_append, List.map_append]; exact hr2⟩, by have := hb2.size; simp; omega, (hB.trans (hb2.mono hwX.size)).setCell (p := ⟨B, 0, none⟩) hwB _⟩⟩
    case done =>
      clear hXs
      rintro D ys W hD rfl ⟨⟨v, hv, hrow, _⟩, hsz, hB⟩ hK
      have hc := hv.cell
      gi_wp2
      refine ⟨by simp, .inl ⟨_, _, rfl, run_takeDeferred hK, ?_⟩⟩
      have hbe := hB.trans (belowK_b (w := w) (Nat.le_refl _) W D _ (.deferred none) (by have := hwX.size; omega) hK rfl rfl)
      have hro := row_lower (ownsRow_putObj hrow (.deferred none) hK rfl) hwX.size
      rw [upto_vals, upto_length] at hro
      have hro2 : (W.putObj D (.deferred none)).ownsRow w.heap.size 2 1 v (ywK s xs xs.length).length ((ywK s xs xs.length).map (Value.int .i64)) := by
        have e9 := ywK_len s xs xs.length
        generalize ywK s xs xs.length = L at hro e9 ⊢
        rw [e9]; exact hro
      refine ⟨.tuple #[v, .bool true], ?_, ⟨yw_yes HOK.out hro2 hbe, hbe⟩⟩
      simp [results, Try.results13, go_sem]
    case stop =>
      rintro D c pre W _ _ h _
      exact h.elim
end Go.Proofs.Ytjdlphebnhkghaa.yw
