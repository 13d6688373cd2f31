/-
  Whether a set's words all lie in an image and are young there: the program's.
-/
import Derived.Test.YtjdlphebnhkghaaYwC
namespace Go.Proofs.Ytjdlphebnhkghaa.yw
open Go.RowKit Go.Shelf
open wmath num ints ref
attribute [local go_sem] Oper.semAt_some

def fitB (s : ByteArray) (xs : List Int) : Nat → Bool
  | 0 => true
  | k + 1 => fitB s xs k && decide (8 * xs.getD k 0 + 8 ≤ (s.size : Int))
def kinB (s : ByteArray) (xs : List Int) : Nat → Bool
  | 0 => true
  | k + 1 => kinB s xs k && decide (refKind (wOf s xs k) = 2)
theorem ywB_two (s : ByteArray) (xs : List Int) (n : Nat) : ywB s xs n = (fitB s xs n && kinB s xs n) := by
  induction n with
  | zero => rfl
  | succ n ih =>
    rw [ywB, ih, fitB, kinB]
    cases fitB s xs n <;> cases kinB s xs n <;> simp
theorem rise_fit (s : ByteArray) (xs : List Int) (h8 : (s.size : Int) % 64 = 0) (hm : (s.size : Int) / 64 ≤ 128) (n : Nat) : riseN xs ((s.size : Int) / 8 - 1) n = (riseN xs 1023 n && fitB s xs n) := by
  induction n with
  | zero => rfl
  | succ n ih =>
    rw [riseN, riseN, ih, fitB]
    have e : decide (xs.getD n 0 ≤ (s.size : Int) / 8 - 1) = (decide (xs.getD n 0 ≤ 1023) && decide (8 * xs.getD n 0 + 8 ≤ (s.size : Int))) := by
      rw [← Bool.decide_and]
      exact decide_eq_decide.2 ⟨fun h => by omega, fun h => by omega⟩
    rw [e]
    cases riseN xs 1023 n <;> cases fitB s xs n <;> cases decide (prevI xs n < xs.getD n 0) <;> simp
theorem fit_all (s : ByteArray) (xs : List Int) (n : Nat) (h : fitB s xs n = true) : ∀ k, k < n → 8 * xs.getD k 0 + 8 ≤ (s.size : Int) := by
  induction n with
  | zero => intro k hk; omega
  | succ n ih =>
    rw [fitB, Bool.and_eq_true] at h
    intro k hk
    by_cases e : k = n
    · subst e; exact of_decide_eq_true h.2
    · exact ih h.1 k (by omega)
theorem kin_of (s : ByteArray) (xs : List Int) (n : Nat) (h : ∀ p ∈ upto s xs n, refKind p.1.2 = 2) : kinB s xs n = true := by
  induction n with
  | zero => rfl
  | succ n ih =>
    rw [upto_succ] at h
    rw [kinB, ih (fun p hp => h p (List.mem_append_left _ hp))]
    have := h (fK s xs n) (List.mem_append_right _ (List.mem_singleton_self _))
    have h2 : refKind (wOf s xs n) = 2 := this
    rw [decide_eq_true h2]; rfl
theorem kin_le (s : ByteArray) (xs : List Int) (k n : Nat) (hk : k ≤ n) (hf : kinB s xs k = false) : kinB s xs n = false := by
  induction n with
  | zero => rw [show k = 0 by omega] at hf; exact hf
  | succ n ih =>
    by_cases e : k = n + 1
    · rw [← e]; exact hf
    · rw [kinB, ih (by omega)]; rfl
theorem kin_no (s : ByteArray) (xs : List Int) (k : Nat) (p : Wd) (ini : List Wd) (h : upto s xs k = ini ++ [p]) (hp : refKind p.1.2 ≠ 2) : kinB s xs k = false := by
  cases k with
  | zero => simp [upto] at h
  | succ k =>
    rw [upto_succ] at h
    obtain ⟨_, e⟩ := List.append_inj' h rfl
    have e2 : fK s xs k = p := by simpa using e
    rw [kinB]
    have h2 : refKind (wOf s xs k) ≠ 2 := by
      have : (fK s xs k).1.2 = p.1.2 := by rw [e2]
      have h3 : wOf s xs k = p.1.2 := this
      rw [h3]; exact hp
    rw [decide_eq_false h2]; simp
theorem img_in {s : ByteArray} (h : imgB s = true) : (s.size : Int) % 64 = 0 ∧ 1 ≤ (s.size : Int) / 64 ∧ (s.size : Int) / 64 ≤ 128 := by
  unfold imgB at h
  simp at h
  omega
set_option maxRecDepth 100000 in
set_option maxHeartbeats 400000 in
theorem remembers_yes (w : World) (s : ByteArray) (a : Option Addr) (cap : Nat) (xs : List Int) (hs : s.size ≤ 1048576) (hn : xs.length ≤ 1048576) (hl : Nums w a xs) (him : imgB s = true) (hr : riseN xs ((s.size : Int) / 8 - 1) xs.length = true) :
    Calls Try.prog 30 #[.string s, .slice a xs.length cap] w fun e w' => e = .returned (.bool (kinB s xs xs.length)) ∧ Below w.heap.size w w' := by
  obtain ⟨h8, h1, h128⟩ := img_in him
  have hrf := rise_fit s xs h8 h128 xs.length
  rw [hr] at hrf
  have hrf2 := hrf.symm
  rw [Bool.and_eq_true] at hrf2
  have hx : ∀ k, k < xs.length → 0 ≤ xs.getD k 0 ∧ 8 * xs.getD k 0 + 8 ≤ (s.size : Int) := fun k hk => ⟨(riseN_in xs 1023 hrf2.1 k hk).1, fit_all s xs xs.length hrf2.2 k hk⟩
  have HD : ∀ w, Calls Try.prog 58 #[.agg #[.string s, .slice none 0 0]] w fun e w' => e = .returned (.bool true) ∧ Below w.heap.size w w' := fun w => by
    have := deviceOk_at w s hs
    rw [him] at this
    exact this
  have HRI : ∀ w', Below w.heap.size w w' → Calls Try.prog 57 #[.slice a xs.length cap, .int .i64 ((s.size : Int) / 8 - 1)] w' fun e w'' => e = .returned (.bool true) ∧ w'' = w' := fun w' h => by
    have := (rises_any w' a cap xs ((s.size : Int) / 8 - 1) hn (hl.below h)).mono fun _ _ q => (⟨q.1, q.2.symm⟩ : _ ∧ _)
    rw [hr] at this
    exact this
  have hw1 : IntKind.i64.wrap ((s.size : Int) / 8 - 1) = (s.size : Int) / 8 - 1 := by rw [IntKind.wrap_i64]; omega
  have hq0 : (0 : Int) ≤ (s.size : Int) / 8 := by omega
  clear hrf hrf2 hr him
  obtain ⟨n, hnn⟩ : ∃ n, n = xs.length := ⟨_, rfl⟩
  have HNN : Hid (n = xs.length) := hnn
  rw [← hnn] at HRI ⊢
  clear hnn
  refine (callsIn_wide (n := 5)).1 ?_
  refine callsIn_of_wp_marks Try.func30 rfl trivial ?_ rfl
  simp only [Try.ntmps30, List.size_toArray, List.length_cons, List.length_nil, Nat.reduceAdd, Nat.reduceSub, Array.replicate_succ, Array.replicate_zero, List.push_toArray, List.append_toArray, List.nil_append, List.cons_append]
  gi_wp2_with fail
  refine ⟨trivial, ?_⟩
  refine (callsIn_wide.2 (HD _)).mono ?_
  rintro e w1 ⟨rfl, hb1⟩
  have hB1 : Below w.heap.size w w1 := ((Below.refl _ _).alloc (Nat.le_refl _) _).trans (hb1.mono (by simp))
  have hcl : w1.cell? ⟨w.heap.size, 0, none⟩ = some (.bool false) ∧ w1.frozen? ⟨w.heap.size, 0, none⟩ = false := by
    rw [hb1.cell (p := ⟨w.heap.size, 0, none⟩) (by simp), hb1.frozen (p := ⟨w.heap.size, 0, none⟩) (by simp), World.cell?_alloc_new]
    exact ⟨rfl, World.frozen?_alloc_new _ _ _ _⟩
  have hs1 : w.heap.size < w1.heap.size := by have := hb1.size; simp at this; omega
  clear hb1 HD
  gi_wp2_with fail
  refine ⟨trivial, ?_⟩
  refine (callsIn_wide.2 (HRI _ hB1)).mono ?_
  rintro e w2 ⟨rfl, hw2⟩
  subst hw2
  clear HRI
  gi_wp2_with fail
  refine ⟨trivial, ?_⟩
  refine (wordsOf_in _ _ _ _ _ _).mono ?_
  rintro e w3 ⟨rfl, hw3⟩
  gi_wp2_with fail
  obtain ⟨X, hX⟩ : ∃ X, X = (w2.alloc (.cells #[.string s] 9)).alloc (.cells #[.slice a n cap] 22) := ⟨_, rfl⟩
  rw [← hX]
  have hXs : X.heap.size = w2.heap.size + 2 := by rw [hX]; simp
  have hBX : Below w2.heap.size w2 X := by rw [hX]; exact ((Below.refl _ _).alloc (Nat.le_refl _) _).alloc (by simp) _
  have hwX : Below w.heap.size w X := hB1.trans (hBX.mono hB1.size)
  have hXi : X.cell? ⟨w2.heap.size, 0, none⟩ = some (.string s) := by rw [hX, World.cell?_alloc_past _ _ _ (by simp), World.cell?_alloc_at _ _ _ _ (by simp)]; rfl
  have hXw : X.cell? ⟨w2.heap.size + 1, 0, none⟩ = some (.slice a n cap) := by rw [hX, World.cell?_alloc_at _ _ _ _ (by simp)]; rfl
  have hXc : X.cell? ⟨w.heap.size, 0, none⟩ = some (.bool false) := by rw [hBX.cell (p := ⟨w.heap.size, 0, none⟩) hs1]; exact hcl.1
  have hXf : X.frozen? ⟨w.heap.size, 0, none⟩ = false := by rw [hBX.frozen (p := ⟨w.heap.size, 0, none⟩) hs1]; exact hcl.2
  have hNN := HNN.out
  subst hNN
  clear hX hw3
  refine wpIn_rangeFunc_ownG rfl (by omega) (gf := 60) (lb := #[.pointer (some ⟨w2.heap.size + 1, 0, none⟩), .pointer (some ⟨w2.heap.size, 0, none⟩)]) rfl trivial (enters_of Try.func60 (by kernel_rfl) rfl)
    (words_stops _ (by omega) (w2.heap.size + 1) w2.heap.size X.heap.size w.heap.size a cap s xs hn hs hx X hXw hXi (fun h0 b off e => by
      obtain ⟨b', off', e', hc⟩ := hl 0 h0
      rw [e] at e'; cases e'
      have := World.block_lt_of_cell? w _ hc
      have h3 : b < w.heap.size := this
      exact ⟨by omega, by omega⟩) ⟨by omega, by omega⟩ (hl.below hwX)) Kq.trans (Kq.put (Nat.le_refl _)) (Below.refl _ _) (fun _ => rfl)
    (fun pre W => ((∀ p ∈ pre, refKind p.1.2 = 2) ∧ W.cell? ⟨w.heap.size, 0, none⟩ = some (.bool false) ∧ W.frozen? ⟨w.heap.size, 0, none⟩ = false ∧ X.heap.size ≤ W.heap.size) ∧ Below w.heap.size w W)
    (fun c pre W => (c = .ret ∧ (∃ ini last, pre = ini ++ [last] ∧ refKind last.1.2 ≠ 2) ∧ W.cell? ⟨w.heap.size, 0, none⟩ = some (.bool false)) ∧ Below w.heap.size w W)
    (OwnFrom.and (Own.from (fun s A B row hs hg hr => ⟨hs.1, cell_kept hs.2.1 hg hr, (frozen_kept hs.2.1 hg hr).trans hs.2.2.1, Nat.le_trans hs.2.2.2 hg.size⟩) _) (ownFrom_below (Nat.le_refl _) hwX.size))
    (fun c => OwnFrom.and (Own.from (fun s A B row hs hg hr => by obtain ⟨q1, ⟨ini, last, e1, e2⟩, q3⟩ := hs; exact ⟨q1, ⟨ini, last, e1, e2⟩, cell_kept q3 hg hr⟩) _) (ownFrom_below (Nat.le_refl _) hwX.size))
    ⟨⟨by simp, hXc, hXf, Nat.le_refl _⟩, hwX⟩
    (fun x => { tmps := #[.string s, .slice a xs.length cap, undef, undef, .pointer (some ⟨w.heap.size, 0, none⟩), undef, .int .i64 x.1.2, .string s, .agg #[.string s, .slice none 0 0], .bool true, .bool false, .bool false, .slice a xs.length cap, .string s, .int .i64 (s.size : Int), .int .i64 ((s.size : Int) / 8), .int .i64 ((s.size : Int) / 8 - 1), .bool true, .bool false, .bool false, .string s, .slice a xs.length cap, .func (.func 60) #[] #[.pointer (some ⟨w2.heap.size + 1, 0, none⟩), .pointer (some ⟨w2.heap.size, 0, none⟩)], .int .i64 x.1.1, .int .i64 x.1.2, undef, undef, undef], defers := [] }) ?assign ?body ?done ?stop
  case assign =>
    intro l x W K hK
    gi_wp2
    exact hK
  case body =>
    rintro l pre x W ⟨⟨hp, hcr, hfr, hsz⟩, hB⟩ _
    have hRK := implRefKind x.1.2 W x.2
    gi_wp2_with fail
    refine ⟨trivial, ?_⟩
    refine (CallsIn.inRound l (callsIn_wide.2 hRK)).mono ?_
    rintro e w' ⟨rfl, hbk⟩
    have hrl : w.heap.size < W.heap.size := World.block_lt_of_cell? W _ hcr
    have hcr2 : w'.cell? ⟨w.heap.size, 0, none⟩ = some (.bool false) := by rw [hbk.cell (p := ⟨w.heap.size, 0, none⟩) hrl]; exact hcr
    have hfr2 : w'.frozen? ⟨w.heap.size, 0, none⟩ = false := by rw [hbk.frozen (p := ⟨w.heap.size, 0, none⟩) hrl]; exact hfr
    have hko : KeepsOthers W w' := ⟨hbk.size, fun k o h _ => by rw [hbk.block k (Array.getElem?_eq_some_iff.1 h).1]; exact h⟩
    have hkq : Kq X.heap.size w.heap.size W w' := fun k hk _ => hbk.block k (by omega)
    have hB2 : Below w.heap.size w w' := hB.trans (hbk.mono hB.size)
    have hsz2 : X.heap.size ≤ w'.heap.size := Nat.le_trans hsz hbk.size
    by_cases hk2 : refKind x.1.2 = 2
    · have hne : (refKind x.1.2 != 2) = false := by simpa using hk2
      gi_wp2
      exact ⟨hko.from _, hkq, ⟨fun p hp' => (List.mem_append.1 hp').elim (hp p) (fun e => by simp at e; subst e; exact hk2), hcr2, hfr2, hsz2⟩, hB2⟩
    · have hne : (refKind x.1.2 != 2) = true := by simpa using hk2
      gi_wp2
      exact ⟨(hko.trans (KeepsOthers.setCell _ _ _)).from _, ⟨rfl, ⟨pre, x, rfl, hk2⟩, World.cell?_setCell_same' _ _ _ (by rw [hcr2]; rfl)⟩, hB2.setCell (p := ⟨w.heap.size, 0, none⟩) (Nat.le_refl _) _⟩
  case done =>
    rintro D ys W hD rfl ⟨⟨hne, hcr, hfr, hsz⟩, hB⟩ hK
    gi_wp2
    have hK' := (KeepsOthers.setCell W ⟨w.heap.size, 0, none⟩ (.bool true)).same D _ hK rfl
    refine ⟨by simp, .inl ⟨_, _, rfl, run_takeDeferred hK', ?_⟩⟩
    have hc5 := cell_kept (World.cell?_setCell_same' W ⟨w.heap.size, 0, none⟩ (.bool true) (by rw [hcr]; rfl)) (grownBy_putObj' _ D (.deferred none)) (fun r e => by cases e; exact ⟨_, hK', rfl⟩)
    refine ⟨.bool true, ?_, by rw [kin_of s xs xs.length hne], (hB.setCell (p := ⟨w.heap.size, 0, none⟩) (Nat.le_refl _) _).trans (belowK_b (w := w) (Nat.le_refl _) _ D _ _ (by omega) hK' rfl rfl)⟩
    simp [results, Try.results30, go_sem, hc5]
  case stop =>
    rintro D c pre W hD ⟨k, hk, rfl⟩ ⟨⟨rfl, ⟨ini, last, e1, e2⟩, hcr⟩, hB⟩ hK
    gi_wp2
    refine ⟨by simp, .inl ⟨_, _, rfl, run_takeDeferred hK, ?_⟩⟩
    have hc5 := cell_kept hcr (grownBy_putObj' _ D (.deferred none)) (fun r e => by cases e; exact ⟨_, hK, rfl⟩)
    refine ⟨.bool false, ?_, by rw [kin_le s xs k xs.length hk (kin_no s xs k last ini e1 e2)], hB.trans (belowK_b (w := w) (Nat.le_refl _) W D _ _ (by omega) hK rfl rfl)⟩
    simp [results, Try.results30, go_sem, hc5]
end Go.Proofs.Ytjdlphebnhkghaa.yw
