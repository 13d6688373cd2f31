/-
  What Seen and Load return, by the specification and by the program; nothing that was there is written.
-/
import Derived.Test.YtgpmpijaggnocaaDev7
namespace Go.Proofs.Ytgpmpijaggnocaa.dev
open Go.RowKit
open bb later

theorem seen_some {safe : ByteArray} {ls : List Ln} (h : DevOk safe ls) : (seenStr safe ls).size = safe.size := by
  have := prefix_ok h ls.length
  rw [List.take_length] at this
  show (seenL safe.data.toList ls).toArray.size = safe.size
  simpa using this

theorem spec_seen_no (w : World) (safe : ByteArray) (a : Option Addr) (cap : Nat) (ls : List Ln) (hs : safe.size ≤ 1048576) (hn : ls.length ≤ 1048576) (hl : Lines w a ls) (hz : ∀ i (hi : i < ls.length), ls[i].data.size ≤ 1048576 ∧ ls[i].sent.size ≤ 1048576) (hbad : ¬ DevOk safe ls) :
    Calls Try.prog 10 #[.agg #[.string safe, .slice a ls.length cap]] w fun e w' => e = .returned (.string ⟨#[]⟩) ∧ Below w.heap.size w w' := by
  have hb0 : Below w.heap.size w (w.alloc (.cells #[.string safe, .slice a ls.length cap] 26)) := by go_grown
  have HC : Hid (Calls _ _ _ _ _) := spec_ok (w.alloc (.cells #[.string safe, .slice a ls.length cap] 26)) safe a cap ls hs hn (hl.below hb0) hz
  clear hl hz
  go_enter Try.func10, Try.ntmps10
  go_wp2_with fail
  refine HC.out.mono ?_
  rintro e w2 ⟨b, rfl, hb, hb2⟩
  have hf : b = false := by
    cases b
    · rfl
    · exact absurd (hb.1 rfl) hbad
  subst hf
  clear hb
  go_wp2
  go_ret
  exact ⟨rfl, hb0.trans (hb2.mono hb0.size)⟩
theorem spec_seen (w : World) (safe : ByteArray) (a : Option Addr) (cap : Nat) (ls : List Ln) (hs : safe.size ≤ 1048576) (hn : ls.length ≤ 1048576) (hl : Lines w a ls) (hz : ∀ i (hi : i < ls.length), ls[i].data.size ≤ 1048576 ∧ ls[i].sent.size ≤ 1048576) (hok : DevOk safe ls) :
    Calls Try.prog 10 #[.agg #[.string safe, .slice a ls.length cap]] w fun e w' => e = .returned (.string (seenStr safe ls)) ∧ Below w.heap.size w w' := by
  obtain ⟨W, hW⟩ : ∃ W, W = w.alloc (.cells #[.string safe, .slice a ls.length cap] 26) := ⟨_, rfl⟩
  have HB0 : Hid (Below w.heap.size w W) := by rw [hW]; exact (Below.refl _ _).alloc (Nat.le_refl _) _
  have hsz : w.heap.size < W.heap.size := by rw [hW]; simp
  have k0 : W.cell? ⟨w.heap.size, 0, none⟩ = some (.string safe) := by rw [hW, World.cell?_alloc_new]; rfl
  have k1 : W.cell? ⟨w.heap.size, 1, none⟩ = some (.slice a ls.length cap) := by rw [hW, World.cell?_alloc_new]; rfl
  have HW : Hid (W = w.alloc (.cells #[.string safe, .slice a ls.length cap] 26)) := hW
  have HC : Hid (Calls _ _ _ _ _) := spec_ok W safe a cap ls hs hn (hl.below HB0.out) hz
  have HQ : Hid (∀ w', Below W.heap.size W w' → Calls _ _ _ w' _) := fun w' h => l2Seen_any w' safe a cap ls hs hn ((hl.below HB0.out).below h) hok
  have HOK : Hid (DevOk safe ls) := hok
  generalize seenStr safe ls = st at HQ ⊢
  clear hW hl hz hok
  go_enter Try.func10, Try.ntmps10
  go_wp2_with fail
  rw [← HW.out]
  refine HC.out.mono ?_
  rintro e w2 ⟨b, rfl, hb, hb2⟩
  have hf : b = true := hb.2 HOK.out
  subst hf
  have m0 : w2.cell? ⟨w.heap.size, 0, none⟩ = some (.string safe) := by rw [hb2.cell (p := ⟨w.heap.size, 0, none⟩) hsz]; exact k0
  have m1 : w2.cell? ⟨w.heap.size, 1, none⟩ = some (.slice a ls.length cap) := by rw [hb2.cell (p := ⟨w.heap.size, 1, none⟩) hsz]; exact k1
  have HB2 : Hid (Below W.heap.size W w2) := hb2
  clear hb hb2 k0 k1
  go_wp2_with fail
  refine (HQ.out _ HB2.out).mono ?_
  rintro e w3 ⟨rfl, hb3⟩
  have h3 := HB2.out.trans (hb3.mono HB2.out.size)
  go_wp2
  go_ret
  exact ⟨rfl, HB0.out.trans (h3.mono HB0.out.size)⟩
/-- Both say the same of a device. -/
theorem seen_both (safe : ByteArray) (ls : List Ln) (hs : safe.size ≤ 1048576) (hn : ls.length ≤ 1048576) (hz : ∀ i (hi : i < ls.length), ls[i].data.size ≤ 1048576 ∧ ls[i].sent.size ≤ 1048576) :
    ∃ st : ByteArray, (∀ (w : World) (a : Option Addr) (cap : Nat), Lines w a ls → Calls Try.prog 10 #[.agg #[.string safe, .slice a ls.length cap]] w fun e w' => e = .returned (.string st) ∧ Below w.heap.size w w') ∧
      ∀ (w : World) (a : Option Addr) (cap : Nat), Lines w a ls → Calls Try.prog 14 #[.agg #[.string safe, .slice a ls.length cap]] w fun e w' => e = .returned (.string st) ∧ Below w.heap.size w w' := by
  by_cases hok : DevOk safe ls
  · exact ⟨seenStr safe ls, fun w a cap hl => spec_seen w safe a cap ls hs hn hl hz hok, fun w a cap hl => impl_seen w safe a cap ls hs hn hl hz hok⟩
  · exact ⟨⟨#[]⟩, fun w a cap hl => spec_seen_no w safe a cap ls hs hn hl hz hok, fun w a cap hl => impl_seen_no w safe a cap ls hs hn hl hz hok⟩
end Go.Proofs.Ytgpmpijaggnocaa.dev
