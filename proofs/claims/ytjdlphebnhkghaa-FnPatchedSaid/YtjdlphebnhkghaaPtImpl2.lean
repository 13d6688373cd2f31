/-
  Patched, by the program, whatever is handed in.
-/
import Derived.Test.YtjdlphebnhkghaaPtImpl
namespace Go.Proofs.Ytjdlphebnhkghaa.pt
open Go.RowKit Go.Shelf
open wmath num ints ref yw wb bb
attribute [local go_sem] Oper.semAt_some

set_option maxRecDepth 100000 in
set_option maxHeartbeats 400000 in
theorem impl_pt_no (w : World) (s : ByteArray) (sv bv cv : Value) (b1 b2 : Bool)
    (HR : ∀ w', Below w.heap.size w w' → Calls Try.prog 30 #[.string s, sv] w' fun e w'' => e = .returned (.bool b1) ∧ Below w'.heap.size w' w'')
    (HF : ∀ w', Below w.heap.size w w' → Calls Try.prog 31 #[bv, cv] w' fun e w'' => e = .returned (.bool b2) ∧ Below w'.heap.size w' w'') (hb : ∃ (p1 p2 : Option Addr) (n1 n2 c1 c2 : Nat), bv = .slice p1 n1 c1 ∧ cv = .slice p2 n2 c2) (hno : (b1 && b2) = false) :
    Calls Try.prog 9 #[.string s, sv, bv, cv] w fun e w' => e = .returned (.tuple #[.string ⟨#[]⟩, .bool false]) ∧ Below w.heap.size w w' := by
  obtain ⟨p1, p2, n1, n2, c1, c2, rfl, rfl⟩ := hb
  refine (callsIn_wide (n := 5)).1 ?_
  refine callsIn_of_wp_marks Try.func9 rfl trivial ?_ rfl
  simp only [Try.ntmps9, List.size_toArray, List.length_cons, List.length_nil, Nat.reduceAdd, Nat.reduceSub, Array.replicate_succ, Array.replicate_zero, List.push_toArray, List.append_toArray, List.nil_append, List.cons_append]
  gi_wp2_with fail
  obtain ⟨X0, hX0⟩ : ∃ X, X = (w.alloc (.cells #[.slice p1 n1 c1] 22)).alloc (.cells #[.slice p2 n2 c2] 22) := ⟨_, rfl⟩
  rw [← hX0]
  have hb0 : Below w.heap.size w X0 := by rw [hX0]; exact ((Below.refl _ _).alloc (Nat.le_refl _) _).alloc (by simp) _
  have hs0 : X0.heap.size = w.heap.size + 2 := by rw [hX0]; simp
  have k6 : X0.cell? ⟨w.heap.size, 0, none⟩ = some (.slice p1 n1 c1) := by rw [hX0, World.cell?_alloc_past _ _ _ (by simp), World.cell?_alloc_at _ _ _ _ (by simp)]; rfl
  have k7 : X0.cell? ⟨w.heap.size + 1, 0, none⟩ = some (.slice p2 n2 c2) := by rw [hX0, World.cell?_alloc_at _ _ _ _ (by simp)]; rfl
  refine ⟨trivial, ?_⟩
  refine (callsIn_wide.2 (HR X0 hb0)).mono ?_
  rintro e w1 ⟨rfl, hb1⟩
  have hB1 : Below w.heap.size w w1 := hb0.trans (hb1.mono hb0.size)
  cases b1 with
  | false =>
    clear hX0 hb0 hs0 k6 k7 HR HF hb1 hno
    gi_wp2_with fail
    refine ⟨trivial, ?_⟩
    gi_wp2
    refine ⟨.tuple #[.string ⟨#[]⟩, .bool false], ?_, rfl, hB1⟩
    simp [results, Try.results9, go_sem]
  | true =>
  have hb2 : b2 = false := by simpa using hno
  subst hb2
  have hc6 : w1.cell? ⟨w.heap.size, 0, none⟩ = some (.slice p1 n1 c1) := by rw [hb1.cell (p := ⟨w.heap.size, 0, none⟩) (by show w.heap.size < _; omega)]; exact k6
  have hc7 : w1.cell? ⟨w.heap.size + 1, 0, none⟩ = some (.slice p2 n2 c2) := by rw [hb1.cell (p := ⟨w.heap.size + 1, 0, none⟩) (by show w.heap.size + 1 < _; omega)]; exact k7
  clear hX0 hb0 hs0 k6 k7 HR hb1 hno
  gi_wp2_with fail
  refine ⟨trivial, ?_⟩
  refine (callsIn_wide.2 (HF w1 hB1)).mono ?_
  rintro e w2 ⟨rfl, hb2⟩
  have hB2 : Below w.heap.size w w2 := hB1.trans (hb2.mono hB1.size)
  clear HF hb2 hc6 hc7
  gi_wp2
  refine ⟨.tuple #[.string ⟨#[]⟩, .bool false], ?_, rfl, hB2⟩
  simp [results, Try.results9, go_sem]
theorem impl_pt (w : World) (s : ByteArray) (a : Option Addr) (cap : Nat) (xs : List Int) (b : Option Addr) (cb : Nat) (fr : List Int) (c : Option Addr) (cc : Nat) (to : List Int) (hs : s.size ≤ 1048576) (hn : xs.length ≤ 1048576) (hfn : fr.length ≤ 1048576) (htn : to.length ≤ 1048576) (hl : Nums w a xs) (hb : Nums w b fr) (hc : Nums w c to) (hv : ∀ x ∈ to, x < 9223372036854775808) :
    Calls Try.prog 9 #[.string s, .slice a xs.length cap, .slice b fr.length cb, .slice c to.length cc] w fun e w' => e = .returned (.tuple #[.string (ptS s fr to xs), .bool (ptOk s fr to xs)]) ∧ Below w.heap.size w w' := by
  have HR : ∀ w', Below w.heap.size w w' → Calls _ _ _ w' _ := fun w' q => remembers_any w' s a cap xs hs hn (hl.below q)
  have HF : ∀ w', Below w.heap.size w w' → Calls _ _ _ w' _ := fun w' q => fwdOk_any w' b c cb cc fr to htn (hc.below q) hv
  unfold ptS
  cases h : ptOk s fr to xs with
  | false =>
    rw [if_neg (by decide)]
    exact impl_pt_no w s _ _ _ _ _ HR HF ⟨_, _, _, _, _, _, rfl, rfl⟩ h
  | true =>
    rw [if_pos rfl]
    have h2 := h
    unfold ptOk at h2
    rw [Bool.and_eq_true] at h2
    exact impl_pt_yes w s a cap xs b cb fr c cc to hs hn hfn htn hl hb hc hv h2.1 h2.2
end Go.Proofs.Ytjdlphebnhkghaa.pt
