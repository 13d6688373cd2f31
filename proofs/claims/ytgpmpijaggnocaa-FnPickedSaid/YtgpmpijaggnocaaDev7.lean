/-
  What the specification's Seen returns; nothing that was there is written.
-/
import Derived.Test.YtgpmpijaggnocaaDev6
import Derived.RegionTactic
import Derived.ChangeAlike
namespace Go.Proofs.Ytgpmpijaggnocaa.dev
open Go.RowKit
open bb later

set_option maxHeartbeats 2000000 in
theorem l2Seen_any (w : World) (safe : ByteArray) (a : Option Addr) (cap : Nat) (ls : List Ln) (hs : safe.size ≤ 1048576) (hn : ls.length ≤ 1048576) (hl : Lines w a ls) (hok : DevOk safe ls) :
    Calls Try.prog 36 #[.agg #[.string safe, .slice a ls.length cap]] w fun e w' => e = .returned (.string (seenStr safe ls)) ∧ Below w.heap.size w w' := by
  have HL : Hid (Lines w a ls) := hl
  have HOK : Hid (DevOk safe ls) := hok
  have HPL : Hid (∀ k, (seenL safe.data.toList (ls.take k)).length = safe.size) := prefix_ok hok
  obtain ⟨W, hW⟩ : ∃ W, W = w.alloc (.cells #[.string safe, .slice a ls.length cap] 26) := ⟨_, rfl⟩
  have HB0 : Hid (Below w.heap.size w W) := by rw [hW]; exact (Below.refl _ _).alloc (Nat.le_refl _) _
  have hsz : w.heap.size < W.heap.size := by rw [hW]; simp
  have k0 : W.cell? ⟨w.heap.size, 0, none⟩ = some (.string safe) := by rw [hW, World.cell?_alloc_new]; rfl
  have k1 : W.cell? ⟨w.heap.size, 1, none⟩ = some (.slice a ls.length cap) := by rw [hW, World.cell?_alloc_new]; rfl
  have HK : Hid (∀ w', Below W.heap.size W w' → w'.cell? ⟨w.heap.size, 0, none⟩ = some (.string safe) ∧ w'.cell? ⟨w.heap.size, 1, none⟩ = some (.slice a ls.length cap)) := fun w' h =>
    ⟨by rw [h.cell (p := ⟨w.heap.size, 0, none⟩) hsz]; exact k0, by rw [h.cell (p := ⟨w.heap.size, 1, none⟩) hsz]; exact k1⟩
  have hrt := run_told safe W
  have htb := told_below W safe
  have hby := told_bytes W safe
  have hts := told_size W safe
  have hcp : safe.size ≤ capOf W safe := grownCap_ge _ _ _ _
  generalize told W safe = w3 at hrt htb hby hts
  generalize capOf W safe = cp at hrt hcp
  have HB3 : Hid (Below W.heap.size W w3) := htb
  have HBy : Hid (Bytes w3 W.heap.size safe.data.toList) := hby
  have hg3 : W.heap.size < w3.heap.size := by omega
  rw [hW] at hrt
  obtain ⟨n0, n1⟩ := HK.out w3 HB3.out
  have hWs : W.heap.size = w.heap.size + 1 := by rw [hW]; simp
  have HWS : Hid (W.heap.size = w.heap.size + 1) := hWs
  have hrt2 : (convert 9 22 (.string safe)).run Try.prog (w.alloc (.cells #[.string safe, .slice a ls.length cap] 26)) = .ok (.slice (some ⟨W.heap.size, 0, none⟩) safe.size cp) w3 := by rw [hrt, hWs]; simp
  clear k0 k1 hW hl hok htb hby hts hrt hWs
  go_enter Try.func36, Try.ntmps36
  go_wp2
  clear hrt2 n0 n1
  go_loopw [4] (fun i wr => ∃ k : Nat, k ≤ ls.length ∧ i = .int .i64 k ∧ Bytes wr W.heap.size (seenL safe.data.toList (ls.take k)) ∧ Below W.heap.size W wr ∧ W.heap.size < wr.heap.size) (fun i _ => ls.length - (intOf i).toNat)
  case atStart => exact ⟨0, Nat.zero_le _, rfl, by simpa [seenL] using HBy.out, HB3.out, hg3⟩
  case round =>
    obtain ⟨k, hk, rfl, hbr, hb, hgr⟩ := hrel
    have HBr : Hid (Bytes wr W.heap.size (seenL safe.data.toList (ls.take k))) := hbr
    have HB : Hid (Below W.heap.size W wr) := hb
    have HBw : Hid (Below w.heap.size w wr) := HB0.out.trans (hb.mono HB0.out.size)
    clear hbr hb
    have hpl := HPL.out k
    obtain ⟨m0, m1⟩ := HK.out wr HB.out
    by_cases hlt : k < ls.length
    · have hlk := HOK.out.2.2.2 k hlt
      have hst := seenL_take safe.data.toList ls k hlt
      obtain ⟨bb, off, rfl, c0, c1, c2⟩ := (HL.out k hlt).below HBw.out
      generalize ls[k] = l at c0 c1 c2 hlk hst
      obtain ⟨pl, dt, sn⟩ := l
      simp only at c0 c1 c2 hst
      obtain ⟨_, hp0, hp1, hd64, _⟩ := hlk
      simp only at hp0 hp1 hd64
      have hdl : dt.data.toList.length = 64 := by simpa using hd64
      obtain ⟨p, rfl⟩ := Int.eq_ofNat_of_zero_le hp0
      rw [Int.toNat_natCast] at hst
      have h64 : 64 * p + 64 ≤ safe.size := by have := HOK.out.1; omega
      generalize seenL safe.data.toList (ls.take k) = cur at HBr hpl hst
      have HST : Hid (seenL safe.data.toList (ls.take (k + 1)) = putAt cur (64 * p) dt.data.toList) := hst
      have hcy := copy_run wr.drew W.heap.size (64 * p) (safe.size - 64 * p) (cp - 64 * p) cur dt 3 HBr.out (by omega) (by omega)
      have HN : Hid (Bytes (wr.drew.setCells W.heap.size (64 * p) (cellsOfText dt)) W.heap.size (putAt cur (64 * p) dt.data.toList)) := bytes_splice (w := wr.drew) HBr.out _ _ (by omega)
      have HNB : Hid (Below W.heap.size W (wr.drew.setCells W.heap.size (64 * p) (cellsOfText dt))) := below_cells HB.out.drew (Nat.le_refl _) _ _
      have hns : W.heap.size < (wr.drew.setCells W.heap.size (64 * p) (cellsOfText dt)).heap.size := by rw [size_cells]; exact hgr
      generalize wr.drew.setCells W.heap.size (64 * p) (cellsOfText dt) = w6 at HN HNB hns hcy
      have hw64 : IntKind.i64.wrap (64 * (p : Int)) = 64 * (p : Int) := by rw [IntKind.wrap_i64]; omega
      have hb1 : 64 * (p : Int) ≤ (safe.size : Int) := by omega
      have hcne : ¬ cp = 64 * p := by omega
      have hlti : (k : Int) < (ls.length : Int) := by omega
      clear hst hp0 hp1 hd64 hdl
      go_wp2
      go_region
      all_goals
        clear c0 c1 c2 m0 m1 hcy
        go_wp2
        go_roundw
        case rel => exact ⟨k + 1, by omega, by go_num, by rw [HST.out]; exact HN.out, HNB.out, hns⟩
        case measure => simp [intOf]; omega
    · have he : ls.take k = ls := List.take_of_length_le (by omega)
      rw [he] at HBr hpl
      have hcv := HBr.out.text cp
      rw [hpl] at hcv
      have HF : Hid (seenStr safe ls = ⟨(seenL safe.data.toList ls).toArray⟩) := rfl
      generalize ByteArray.mk (seenL safe.data.toList ls).toArray = st at hcv HF
      go_wp2
      go_ret
      exact ⟨by rw [HF.out]; rfl, HBw.out⟩
end Go.Proofs.Ytgpmpijaggnocaa.dev
