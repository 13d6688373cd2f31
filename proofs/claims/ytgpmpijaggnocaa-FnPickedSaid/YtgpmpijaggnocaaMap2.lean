/-
  The program's lines by place, as a map that it makes; nothing that was there is written.
-/
import Derived.Test.YtgpmpijaggnocaaMap1
import Derived.Test.YtgpmpijaggnocaaDev3
import Derived.Test.YtgpmpijaggnocaaDev9
import Derived.Outline
namespace Go.Proofs.Ytgpmpijaggnocaa.dev
open Go.RowKit Go.Maps

def byPlace (ls : List Ln) : Int → Option Ln := ls.foldl (fun f l => upd f l.place (some l)) (fun _ => none)
theorem byPlace_take (ls : List Ln) (k : Nat) (hk : k < ls.length) : byPlace (ls.take (k + 1)) = upd (byPlace (ls.take k)) ls[k].place (some ls[k]) := by
  rw [List.take_succ_eq_append_getElem hk]
  unfold byPlace
  rw [List.foldl_append]
  rfl
theorem wf_small (n : Int) (h0 : 0 ≤ n) (h1 : n ≤ 1048576) : (Lit.int .i64 n).wf = true := by
  simp [Lit.wf, IntKind.min, IntKind.max, IntKind.signed, IntKind.bits]
  omega
theorem run_hint (n : Nat) (w : World) : (Instr.makeMap 57 (some (.int .i64 (n : Int)))).run Try.prog w = .ok (.map (some w.heap.size)) (w.alloc (.map #[] 0)) := by
  simp [Instr.makeMap, go_sem]
set_option maxHeartbeats 2000000 in
theorem linesByPlace_any (w : World) (safe : ByteArray) (a : Option Addr) (cap : Nat) (ls : List Ln) (hn : ls.length ≤ 1048576) (hl : Lines w a ls) (hok : DevOk safe ls) :
    Calls Try.prog 38 #[.agg #[.string safe, .slice a ls.length cap]] w fun e w' => ∃ b : Nat, e = .returned (.map (some b)) ∧ w.heap.size ≤ b ∧ MapIs w' b ls.length (byPlace ls) ∧ Below w.heap.size w w' := by
  have hmm := run_hint ls.length
  obtain ⟨W, hW⟩ : ∃ W, W = w.alloc (.cells #[.string safe, .slice a ls.length cap] 26) := ⟨_, rfl⟩
  have HB0 : Hid (Below w.heap.size w W) := by
    have h1 : Below w.heap.size w W := by rw [hW]; exact (Below.refl _ _).alloc (Nat.le_refl _) _
    exact h1
  have hWs : W.heap.size = w.heap.size + 1 := by rw [hW]; simp
  have HL : Hid (∀ w', Below W.heap.size W w' → Lines w' a ls) := fun w' h => (hl.below HB0.out).below h
  have HOK : Hid (DevOk safe ls) := hok
  have HM0 : Hid (MapIs (W.alloc (.map #[] 0)) W.heap.size 0 (fun _ => none)) := mapIs_made W
  have HB1 : Hid (Below W.heap.size W (W.alloc (.map #[] 0))) := (Below.refl _ _).alloc (Nat.le_refl _) _
  have HW : Hid (W = w.alloc (.cells #[.string safe, .slice a ls.length cap] 26)) := hW
  have HWS : Hid (W.heap.size = w.heap.size + 1) := hWs
  clear hl hok hW hWs
  go_enter Try.func38, Try.ntmps38
  go_wp2
  go_loopw [13] (fun i wr => ∃ k : Nat, k ≤ ls.length ∧ i = .int .i64 k ∧ MapIs wr (w.heap.size + 1) k (byPlace (ls.take k)) ∧ Below W.heap.size W wr) (fun i _ => ls.length - (intOf i).toNat)
  case atStart =>
    rw [← HW.out]
    exact ⟨0, Nat.zero_le _, rfl, by rw [← HWS.out]; exact HM0.out, HB1.out⟩
  case round =>
    obtain ⟨k, hk, rfl, hmp, hb⟩ := hrel
    have HM : Hid (MapIs wr (w.heap.size + 1) k (byPlace (ls.take k))) := hmp
    have HB : Hid (Below W.heap.size W wr) := hb
    clear hmp hb
    by_cases hlt : k < ls.length
    · have hlk := HOK.out.2.2.2 k hlt
      have hbt := byPlace_take ls k hlt
      obtain ⟨bb, off, rfl, c0, c1, c2⟩ := HL.out wr HB.out k hlt
      generalize ls[k] = l at c0 c1 c2 hlk hbt
      obtain ⟨pl, dt, sn⟩ := l
      simp only at c0 c1 c2 hbt
      have HBT : Hid (byPlace (ls.take (k + 1)) = upd (byPlace (ls.take k)) pl (some ⟨pl, dt, sn⟩)) := hbt
      have hwf : (Lit.int .i64 pl).wf = true := wf_small pl hlk.2.1 (by have := hlk.2.2.1; have := HOK.out.2.2.1; simp only at *; omega)
      obtain ⟨X, hX⟩ : ∃ X, X = wr.alloc (.cells #[.int .i64 pl, .string dt, .string sn] 46) := ⟨_, rfl⟩
      have HX : Hid (X = wr.alloc (.cells #[.int .i64 pl, .string dt, .string sn] 46)) := hX
      have hBX : Below wr.heap.size wr X := by rw [hX]; exact (Below.refl _ _).alloc (Nat.le_refl _) _
      have HBX : Hid (Below W.heap.size W X) := HB.out.trans (hBX.mono HB.out.size)
      have HMX : Hid (MapIs X (w.heap.size + 1) k (byPlace (ls.take k))) := HM.out.below hBX
      have x0 : X.cell? ⟨wr.heap.size, 0, none⟩ = some (.int .i64 pl) := by rw [hX, World.cell?_alloc_new]; rfl
      have x1 : X.cell? ⟨wr.heap.size, 1, none⟩ = some (.string dt) := by rw [hX, World.cell?_alloc_new]; rfl
      have x2 : X.cell? ⟨wr.heap.size, 2, none⟩ = some (.string sn) := by rw [hX, World.cell?_alloc_new]; rfl
      clear hbt hlk hX hBX hmm
      go_wp2_with (first | (rw [← HX.out]) | (at_mapUpdate; refine at_put _ rfl _ _ _ rfl (w.heap.size + 1) k _ rfl HMX.out (by unfold maxLen; omega) pl ⟨pl, dt, sn⟩ rfl rfl hwf ?_; intro w6 hm6 hg6))
      have HM6 : Hid (MapIs w6 (w.heap.size + 1) (k + 1) (byPlace (ls.take (k + 1)))) := by
        have h1 := hm6
        rw [← HBT.out] at h1
        exact h1
      have HB6 : Hid (Below W.heap.size W w6) := HBX.out.trans (below_of_grown hg6 HBX.out.size (by rw [HWS.out]; exact Nat.le_refl _))
      clear hm6 hg6 x0 x1 x2 c0 c1 c2
      go_wp2
      go_roundw
      case rel => exact ⟨k + 1, by omega, by go_num, HM6.out, HB6.out⟩
      case measure => simp [intOf]; omega
    · have he : ls.take k = ls := List.take_of_length_le (by omega)
      have hk2 : k = ls.length := by omega
      rw [he, hk2] at HM
      go_wp2
      go_ret
      exact ⟨w.heap.size + 1, rfl, by omega, HM.out, HB0.out.trans (HB.out.mono HB0.out.size)⟩
end Go.Proofs.Ytgpmpijaggnocaa.dev
