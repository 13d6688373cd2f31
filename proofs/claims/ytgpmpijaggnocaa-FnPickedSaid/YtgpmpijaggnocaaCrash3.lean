/-
  What Crash returns, by the program; nothing that was there is written.
-/
import Derived.Test.YtgpmpijaggnocaaCrash2
import Derived.Test.YtgpmpijaggnocaaDev4
import Derived.Deep.RegionHeld3
namespace Go.Proofs.Ytgpmpijaggnocaa.dev
open Go.RowKit
open bb later

theorem impl_crash_no (w : World) (safe : ByteArray) (a : Option Addr) (cap : Nat) (ls : List Ln) (kv : Value) (hs : safe.size ≤ 1048576) (hn : ls.length ≤ 1048576) (hl : Lines w a ls) (hz : ∀ i (hi : i < ls.length), ls[i].data.size ≤ 1048576 ∧ ls[i].sent.size ≤ 1048576) (hbad : ¬ DevOk safe ls) :
    Calls Try.prog 22 #[.agg #[.string safe, .slice a ls.length cap], kv] w fun e w' => e = .returned (.agg #[.string ⟨#[]⟩, .slice none 0 0]) ∧ Below w.heap.size w w' := by
  have hb0 : Below w.heap.size w ((w.alloc (.cells #[.string safe, .slice a ls.length cap] 26)).alloc (.cells #[.string ⟨#[]⟩, .slice none 0 0] 26)) := by go_grown
  obtain ⟨W, hW⟩ : ∃ W, W = (w.alloc (.cells #[.string safe, .slice a ls.length cap] 26)).alloc (.cells #[.string ⟨#[]⟩, .slice none 0 0] 26) := ⟨_, rfl⟩
  have k2 : W.cell? ⟨w.heap.size + 1, 0, none⟩ = some (.string ⟨#[]⟩) := by rw [hW, World.cell?_alloc_at _ _ _ _ (by simp)]; rfl
  have k3 : W.cell? ⟨w.heap.size + 1, 1, none⟩ = some (.slice none 0 0) := by rw [hW, World.cell?_alloc_at _ _ _ _ (by simp)]; rfl
  have f2 : ∀ o, W.frozen? ⟨w.heap.size + 1, o, none⟩ = false := fun o => by rw [hW, World.frozen?_alloc_at _ _ _ _ (by simp)]
  have hWs : W.heap.size = w.heap.size + 2 := by rw [hW]; simp
  rw [← hW] at hb0
  have HC : Hid (Calls _ _ _ _ _) := impl_ok W safe a cap ls hs hn (hl.below hb0) hz
  have HW : Hid (W = (w.alloc (.cells #[.string safe, .slice a ls.length cap] 26)).alloc (.cells #[.string ⟨#[]⟩, .slice none 0 0] 26)) := hW
  have HB0 : Hid (Below w.heap.size w W) := hb0
  clear hl hz hW hb0
  go_enter Try.func22, Try.ntmps22
  go_wp2_with fail
  rw [← HW.out]
  refine HC.out.mono ?_
  rintro e w2 ⟨b, rfl, hb, hb2⟩
  have hf : b = false := by
    cases b
    · rfl
    · exact absurd (hb.1 rfl) hbad
  subst hf
  have t0 : w2.cell? ⟨w.heap.size + 1, 0, none⟩ = some (.string ⟨#[]⟩) := by rw [hb2.cell (p := ⟨w.heap.size + 1, 0, none⟩) (by show w.heap.size + 1 < _; omega)]; exact k2
  have t1 : w2.cell? ⟨w.heap.size + 1, 1, none⟩ = some (.slice none 0 0) := by rw [hb2.cell (p := ⟨w.heap.size + 1, 1, none⟩) (by show w.heap.size + 1 < _; omega)]; exact k3
  have y0 : w2.frozen? ⟨w.heap.size + 1, 0, none⟩ = false := by rw [hb2.frozen (p := ⟨w.heap.size + 1, 0, none⟩) (by show w.heap.size + 1 < _; omega)]; exact f2 0
  have y1 : w2.frozen? ⟨w.heap.size + 1, 1, none⟩ = false := by rw [hb2.frozen (p := ⟨w.heap.size + 1, 1, none⟩) (by show w.heap.size + 1 < _; omega)]; exact f2 1
  have HBw : Hid (Below w.heap.size w w2) := HB0.out.trans (hb2.mono HB0.out.size)
  have HE : Hid (∀ S V : Value, Below w.heap.size w ((w2.setCell ⟨w.heap.size + 1, 0, none⟩ S).setCell ⟨w.heap.size + 1, 1, none⟩ V)) := fun S V =>
    (HBw.out.setCell (p := ⟨w.heap.size + 1, 0, none⟩) (by show w.heap.size ≤ w.heap.size + 1; omega) _).setCell (p := ⟨w.heap.size + 1, 1, none⟩) (by show w.heap.size ≤ w.heap.size + 1; omega) _
  have hne2 : (⟨w.heap.size + 1, 0, none⟩ : Addr) ≠ ⟨w.heap.size + 1, 1, none⟩ := fun q => by have := congrArg Addr.off q; simp at this
  have q0 : ∀ S V : Value, ((w2.setCell ⟨w.heap.size + 1, 0, none⟩ S).setCell ⟨w.heap.size + 1, 1, none⟩ V).cell? ⟨w.heap.size + 1, 0, none⟩ = some S := fun S V => by
    rw [World.cell?_setCell_other _ _ _ _ (Ne.symm hne2)]
    exact World.cell?_setCell_same _ _ _ t0
  have q1 : ∀ S V : Value, ((w2.setCell ⟨w.heap.size + 1, 0, none⟩ S).setCell ⟨w.heap.size + 1, 1, none⟩ V).cell? ⟨w.heap.size + 1, 1, none⟩ = some V := fun S V =>
    World.cell?_setCell_same _ _ _ (by rw [World.cell?_setCell_other _ _ _ _ hne2]; exact t1)
  clear hb hb2 hne2 k2 k3 f2
  go_wp2
  refine bodyPost_ret (v := .agg #[.string ⟨#[]⟩, .slice none 0 0]) (by simp [results, Try.results22, go_sem, q0, q1]) rfl ?_
  exact ⟨rfl, HE.out _ _⟩
set_option maxHeartbeats 4000000 in
theorem impl_crash (w : World) (safe : ByteArray) (a : Option Addr) (cap : Nat) (ls : List Ln) (kb : Option Addr) (kc : Nat) (ks : List Int) (hs : safe.size ≤ 1048576) (hn : ls.length ≤ 1048576) (hkn : ks.length ≤ 1048576) (hl : Lines w a ls) (hks : Nums w kb ks) (hz : ∀ i (hi : i < ls.length), ls[i].data.size ≤ 1048576 ∧ ls[i].sent.size ≤ 1048576) (hok : DevOk safe ls) :
    Calls Try.prog 22 #[.agg #[.string safe, .slice a ls.length cap], .slice kb ks.length kc] w fun e w' => e = .returned (.agg #[.string (crashStr safe ls ks), .slice none 0 0]) ∧ Below w.heap.size w w' := by
  have hb0 : Below w.heap.size w ((w.alloc (.cells #[.string safe, .slice a ls.length cap] 26)).alloc (.cells #[.string ⟨#[]⟩, .slice none 0 0] 26)) := by go_grown
  obtain ⟨W, hW⟩ : ∃ W, W = (w.alloc (.cells #[.string safe, .slice a ls.length cap] 26)).alloc (.cells #[.string ⟨#[]⟩, .slice none 0 0] 26) := ⟨_, rfl⟩
  have k0 : W.cell? ⟨w.heap.size, 0, none⟩ = some (.string safe) := by rw [hW, World.cell?_alloc_past _ _ _ (by simp), World.cell?_alloc_at _ _ _ _ rfl]; rfl
  have k1 : W.cell? ⟨w.heap.size, 1, none⟩ = some (.slice a ls.length cap) := by rw [hW, World.cell?_alloc_past _ _ _ (by simp), World.cell?_alloc_at _ _ _ _ rfl]; rfl
  have k2 : W.cell? ⟨w.heap.size + 1, 0, none⟩ = some (.string ⟨#[]⟩) := by rw [hW, World.cell?_alloc_at _ _ _ _ (by simp)]; rfl
  have k3 : W.cell? ⟨w.heap.size + 1, 1, none⟩ = some (.slice none 0 0) := by rw [hW, World.cell?_alloc_at _ _ _ _ (by simp)]; rfl
  have f2 : ∀ o, W.frozen? ⟨w.heap.size + 1, o, none⟩ = false := fun o => by rw [hW, World.frozen?_alloc_at _ _ _ _ (by simp)]
  have hWs : W.heap.size = w.heap.size + 2 := by rw [hW]; simp
  rw [← hW] at hb0
  have HC : Hid (Calls _ _ _ _ _) := impl_ok W safe a cap ls hs hn (hl.below hb0) hz
  have HOK : Hid (DevOk safe ls) := hok
  have HT : Hid (∀ w', Below W.heap.size W w' → w'.cell? ⟨w.heap.size + 1, 0, none⟩ = some (.string ⟨#[]⟩) ∧ w'.cell? ⟨w.heap.size + 1, 1, none⟩ = some (.slice none 0 0) ∧ w'.frozen? ⟨w.heap.size + 1, 0, none⟩ = false ∧ w'.frozen? ⟨w.heap.size + 1, 1, none⟩ = false) := fun w' h =>
    ⟨by rw [h.cell (p := ⟨w.heap.size + 1, 0, none⟩) (by show w.heap.size + 1 < _; omega)]; exact k2, by rw [h.cell (p := ⟨w.heap.size + 1, 1, none⟩) (by show w.heap.size + 1 < _; omega)]; exact k3,
     by rw [h.frozen (p := ⟨w.heap.size + 1, 0, none⟩) (by show w.heap.size + 1 < _; omega)]; exact f2 0, by rw [h.frozen (p := ⟨w.heap.size + 1, 1, none⟩) (by show w.heap.size + 1 < _; omega)]; exact f2 1⟩
  have HW : Hid (W = (w.alloc (.cells #[.string safe, .slice a ls.length cap] 26)).alloc (.cells #[.string ⟨#[]⟩, .slice none 0 0] 26)) := hW
  have HB0 : Hid (Below w.heap.size w W) := hb0
  have HPL : Hid (∀ k, (crashL safe.data.toList ((ls.zip ks).take k)).length = safe.size) := crash_ok hok ks
  have HK : Hid (∀ w', Below W.heap.size W w' → w'.cell? ⟨w.heap.size, 0, none⟩ = some (.string safe) ∧ w'.cell? ⟨w.heap.size, 1, none⟩ = some (.slice a ls.length cap)) := fun w' h =>
    ⟨by rw [h.cell (p := ⟨w.heap.size, 0, none⟩) (by show w.heap.size < _; omega)]; exact k0, by rw [h.cell (p := ⟨w.heap.size, 1, none⟩) (by show w.heap.size < _; omega)]; exact k1⟩
  have HL : Hid (∀ w', Below W.heap.size W w' → Lines w' a ls) := fun w' h => (hl.below HB0.out).below h
  have HN : Hid (∀ w', Below W.heap.size W w' → Nums w' kb ks) := fun w' h => (hks.below HB0.out).below h
  clear hl hz hks hW hb0 hok k0 k1 k2 k3 f2
  go_enter Try.func22, Try.ntmps22
  go_wp2_with fail
  rw [← HW.out]
  refine HC.out.mono ?_
  rintro e w2 ⟨b, rfl, hb, hb2⟩
  have hf : b = true := hb.2 HOK.out
  subst hf
  have HB2 : Hid (Below W.heap.size W w2) := hb2
  clear hb hb2
  obtain ⟨m0, m1⟩ := HK.out w2 HB2.out
  have hrt := run_told safe w2
  have htb := told_below w2 safe
  have hby := told_bytes w2 safe
  have hts := told_size w2 safe
  have hcp : safe.size ≤ capOf w2 safe := grownCap_ge _ _ _ _
  generalize told w2 safe = w3 at hrt htb hby hts
  generalize capOf w2 safe = cp at hrt hcp
  have HB3 : Hid (Below W.heap.size W w3) := HB2.out.trans (htb.mono HB2.out.size)
  have HBy : Hid (Bytes w3 w2.heap.size safe.data.toList) := hby
  have hg2 : W.heap.size ≤ w2.heap.size := HB2.out.size
  have hg3 : w2.heap.size < w3.heap.size := by omega
  clear htb hby hts
  obtain ⟨n0, n1⟩ := HK.out w3 HB3.out
  rcases Int.lt_or_le (ks.length : Int) (ls.length : Int) with hlen | hlen
  · go_wp2
    clear hrt m0 m1 n0 n1
    go_loopw [20] (fun i wr => ∃ k : Nat, k ≤ ls.length ∧ k ≤ ks.length ∧ i = .int .i64 k ∧ Bytes wr w2.heap.size (crashL safe.data.toList ((ls.zip ks).take k)) ∧ Below W.heap.size W wr ∧ w2.heap.size < wr.heap.size) (fun i _ => ls.length - (intOf i).toNat)
    case atStart => exact ⟨0, Nat.zero_le _, Nat.zero_le _, rfl, by simpa [crashL] using HBy.out, HB3.out, hg3⟩
    case round =>
      obtain ⟨k, hk1, hk2, rfl, hbr, hb, hgr⟩ := hrel
      have HBr : Hid (Bytes wr w2.heap.size (crashL safe.data.toList ((ls.zip ks).take k))) := hbr
      have HB : Hid (Below W.heap.size W wr) := hb
      have HBw : Hid (Below w.heap.size w wr) := HB0.out.trans (hb.mono HB0.out.size)
      clear hbr hb
      have hpl := HPL.out k
      by_cases hin : k < ls.length ∧ k < ks.length
      · obtain ⟨hlt, hlk2⟩ := hin
        have hlk := HOK.out.2.2.2 k hlt
        obtain ⟨hzk, hze⟩ := zip_at hlt hlk2
        have hst := crashL_take safe.data.toList (ls.zip ks) k hzk
        rw [hze] at hst
        obtain ⟨bb, off, ea, c0, c1, c2⟩ := HL.out wr HB.out k hlt
        obtain ⟨b2, o2, eb, c3⟩ := HN.out wr HB.out k hlk2
        have hkz := kept_size hlk ks[k]
        have HCS : Hid (∀ w', Below W.heap.size W w' → w'.cell? ⟨w.heap.size, 1, none⟩ = some (.slice (some ⟨bb, off, none⟩) ls.length cap) ∧ w'.cell? ⟨bb, off + k * 3, none⟩ = some (.int .i64 ls[k].place) ∧ w'.cell? ⟨bb, off + k * 3 + 1, none⟩ = some (.string ls[k].data) ∧ w'.cell? ⟨bb, off + k * 3 + 2, none⟩ = some (.string ls[k].sent) ∧ w'.cell? ⟨b2, o2 + k, none⟩ = some (.int .i64 ks[k])) := fun w' h => by
          obtain ⟨b1', o1', e1', d0, d1, d2⟩ := HL.out w' h k hlt
          obtain ⟨b2', o2', e2', d3⟩ := HN.out w' h k hlk2
          rw [ea] at e1'
          rw [eb] at e2'
          simp at e1' e2'
          obtain ⟨rfl, rfl⟩ := e1'
          obtain ⟨rfl, rfl⟩ := e2'
          exact ⟨by rw [← ea]; exact (HK.out w' h).2, d0, d1, d2, d3⟩
        subst ea
        subst eb
        generalize ls[k] = l at c0 c1 c2 hlk hst hkz HCS
        generalize ks[k] = kv at c3 hst hkz HCS
        obtain ⟨pl, dt, sn⟩ := l
        simp only at c0 c1 c2 hst HCS
        obtain ⟨_, hp0, hp1, _, _⟩ := hlk
        simp only at hp0 hp1
        obtain ⟨p, rfl⟩ := Int.eq_ofNat_of_zero_le hp0
        rw [Int.toNat_natCast] at hst
        have h64 : 64 * p + 64 ≤ safe.size := by have := HOK.out.1; omega
        generalize crashL safe.data.toList ((ls.zip ks).take k) = cur at HBr hpl hst
        have HST : Hid (crashL safe.data.toList ((ls.zip ks).take (k + 1)) = putAt cur (64 * p) (keptT ⟨(p : Int), dt, sn⟩ kv).data.toList) := hst
        have HKO : Hid (∀ w, Calls _ _ _ w _) := fun w => keptOf_any w ⟨(p : Int), dt, sn⟩ kv
        generalize keptT ⟨(p : Int), dt, sn⟩ kv = kt at HST HKO hkz
        have hktl : kt.data.toList.length ≤ 64 := by simpa using hkz
        have HPU : Hid (∀ w5, Below wr.drew.heap.size wr.drew w5 → Calls _ _ _ w5 _) := fun w5 h => putLine_kept w5 w2.heap.size cp cur p kt (HBr.out.below (show Below wr.heap.size wr w5 from ⟨h.os, h.tape, h.output, h.size, h.block⟩) hgr) (by omega) (by omega) hktl (by omega)
        rw [hpl] at HPU
        have HBd : Hid (Below W.heap.size W wr.drew) := HB.out.drew
        have HStep : Hid (∀ w5, Below wr.drew.heap.size wr.drew w5 → Below W.heap.size W w5) := fun w5 h => HBd.out.trans (h.mono HBd.out.size)
        have HFin : Hid (∀ w5, Below wr.drew.heap.size wr.drew w5 → Bytes (w5.setCells w2.heap.size (64 * p) (cellsOfText kt)) w2.heap.size (putAt cur (64 * p) kt.data.toList) ∧ Below W.heap.size W (w5.setCells w2.heap.size (64 * p) (cellsOfText kt)) ∧ w2.heap.size < (w5.setCells w2.heap.size (64 * p) (cellsOfText kt)).heap.size) := fun w5 h =>
          ⟨bytes_splice (HBr.out.below (show Below wr.heap.size wr w5 from ⟨h.os, h.tape, h.output, h.size, h.block⟩) hgr) _ _ (by omega), below_cells (HStep.out w5 h) hg2 _ _, by rw [size_cells]; exact Nat.lt_of_lt_of_le hgr h.size⟩
        have hlti : (k : Int) < (ls.length : Int) := by omega
        have hlti2 : (k : Int) < (ks.length : Int) := by omega
        have hk0 : (0 : Int) ≤ (k : Int) := by omega
        clear hst hp0 hp1 hkz hktl c0 c1 c2 c3
        go_wp2
        go_region_held3 (fun w' => w'.cell? ⟨w.heap.size, 1, none⟩ = some (.slice (some ⟨bb, off, none⟩) ls.length cap) ∧ w'.cell? ⟨bb, off + k * 3, none⟩ = some (.int .i64 (p : Int)) ∧ w'.cell? ⟨bb, off + k * 3 + 1, none⟩ = some (.string dt) ∧ w'.cell? ⟨bb, off + k * 3 + 2, none⟩ = some (.string sn) ∧ w'.cell? ⟨b2, o2 + k, none⟩ = some (.int .i64 kv))
          (first | exact HCS.out _ HBd.out | exact HCS.out _ h5 | exact HCS.out _ h6)
          (first | (go_at_call 49; refine (HKO.out wr.drew).mono ?_; rintro e w5 ⟨rfl, hb5⟩; have h5 := HStep.out w5 hb5) | (go_at_call 44; refine (HPU.out w5 hb5).mono ?_; rintro e w6 ⟨rfl, rfl⟩; have h6 := (HFin.out w5 hb5).2.1))
        all_goals
          have Z : Hid (_ ∧ _ ∧ _) := HFin.out w5 hb5
          clear hb5 h5 h6
          go_wp2
          go_roundw
          case rel => exact ⟨k + 1, by omega, by omega, by go_num, by rw [HST.out]; exact Z.out.1, Z.out.2.1, Z.out.2.2⟩
          case measure => simp [intOf]; omega
      · have he : (ls.zip ks).take k = ls.zip ks := List.take_of_length_le (by rw [List.length_zip]; omega)
        rw [he] at HBr hpl
        have hcv := HBr.out.text cp
        rw [hpl] at hcv
        have HF : Hid (crashStr safe ls ks = ⟨(crashL safe.data.toList (ls.zip ks)).toArray⟩) := rfl
        generalize ByteArray.mk (crashL safe.data.toList (ls.zip ks)).toArray = st at hcv HF
        obtain ⟨t0, t1, y0, y1⟩ := HT.out wr HB.out
        have HE : Hid (∀ S V : Value, Below w.heap.size w ((wr.setCell ⟨w.heap.size + 1, 0, none⟩ S).setCell ⟨w.heap.size + 1, 1, none⟩ V)) := fun S V =>
          (HBw.out.setCell (p := ⟨w.heap.size + 1, 0, none⟩) (by show w.heap.size ≤ w.heap.size + 1; omega) _).setCell (p := ⟨w.heap.size + 1, 1, none⟩) (by show w.heap.size ≤ w.heap.size + 1; omega) _
        have hne2 : (⟨w.heap.size + 1, 0, none⟩ : Addr) ≠ ⟨w.heap.size + 1, 1, none⟩ := fun q => by have := congrArg Addr.off q; simp at this
        have q0 : ∀ S V : Value, ((wr.setCell ⟨w.heap.size + 1, 0, none⟩ S).setCell ⟨w.heap.size + 1, 1, none⟩ V).cell? ⟨w.heap.size + 1, 0, none⟩ = some S := fun S V => by
          rw [World.cell?_setCell_other _ _ _ _ (Ne.symm hne2)]
          exact World.cell?_setCell_same _ _ _ t0
        have q1 : ∀ S V : Value, ((wr.setCell ⟨w.heap.size + 1, 0, none⟩ S).setCell ⟨w.heap.size + 1, 1, none⟩ V).cell? ⟨w.heap.size + 1, 1, none⟩ = some V := fun S V =>
          World.cell?_setCell_same _ _ _ (by rw [World.cell?_setCell_other _ _ _ _ hne2]; exact t1)
        have hge : ¬ (k : Int) < (ks.length : Int) := by omega
        clear hne2
        go_wp2
        refine bodyPost_ret (v := .agg #[.string st, .slice none 0 0]) (by simp [results, Try.results22, go_sem, q0, q1]) rfl ?_
        exact ⟨by rw [HF.out], HE.out _ _⟩
  · have hlen2 : ¬ (ks.length : Int) < (ls.length : Int) := by omega
    go_wp2
    clear hrt m0 m1 n0 n1
    go_loopw [20] (fun i wr => ∃ k : Nat, k ≤ ls.length ∧ k ≤ ks.length ∧ i = .int .i64 k ∧ Bytes wr w2.heap.size (crashL safe.data.toList ((ls.zip ks).take k)) ∧ Below W.heap.size W wr ∧ w2.heap.size < wr.heap.size) (fun i _ => ls.length - (intOf i).toNat)
    case atStart => exact ⟨0, Nat.zero_le _, Nat.zero_le _, rfl, by simpa [crashL] using HBy.out, HB3.out, hg3⟩
    case round =>
      obtain ⟨k, hk1, hk2, rfl, hbr, hb, hgr⟩ := hrel
      have HBr : Hid (Bytes wr w2.heap.size (crashL safe.data.toList ((ls.zip ks).take k))) := hbr
      have HB : Hid (Below W.heap.size W wr) := hb
      have HBw : Hid (Below w.heap.size w wr) := HB0.out.trans (hb.mono HB0.out.size)
      clear hbr hb
      have hpl := HPL.out k
      by_cases hin : k < ls.length ∧ k < ks.length
      · obtain ⟨hlt, hlk2⟩ := hin
        have hlk := HOK.out.2.2.2 k hlt
        obtain ⟨hzk, hze⟩ := zip_at hlt hlk2
        have hst := crashL_take safe.data.toList (ls.zip ks) k hzk
        rw [hze] at hst
        obtain ⟨bb, off, ea, c0, c1, c2⟩ := HL.out wr HB.out k hlt
        obtain ⟨b2, o2, eb, c3⟩ := HN.out wr HB.out k hlk2
        have hkz := kept_size hlk ks[k]
        have HCS : Hid (∀ w', Below W.heap.size W w' → w'.cell? ⟨w.heap.size, 1, none⟩ = some (.slice (some ⟨bb, off, none⟩) ls.length cap) ∧ w'.cell? ⟨bb, off + k * 3, none⟩ = some (.int .i64 ls[k].place) ∧ w'.cell? ⟨bb, off + k * 3 + 1, none⟩ = some (.string ls[k].data) ∧ w'.cell? ⟨bb, off + k * 3 + 2, none⟩ = some (.string ls[k].sent) ∧ w'.cell? ⟨b2, o2 + k, none⟩ = some (.int .i64 ks[k])) := fun w' h => by
          obtain ⟨b1', o1', e1', d0, d1, d2⟩ := HL.out w' h k hlt
          obtain ⟨b2', o2', e2', d3⟩ := HN.out w' h k hlk2
          rw [ea] at e1'
          rw [eb] at e2'
          simp at e1' e2'
          obtain ⟨rfl, rfl⟩ := e1'
          obtain ⟨rfl, rfl⟩ := e2'
          exact ⟨by rw [← ea]; exact (HK.out w' h).2, d0, d1, d2, d3⟩
        subst ea
        subst eb
        generalize ls[k] = l at c0 c1 c2 hlk hst hkz HCS
        generalize ks[k] = kv at c3 hst hkz HCS
        obtain ⟨pl, dt, sn⟩ := l
        simp only at c0 c1 c2 hst HCS
        obtain ⟨_, hp0, hp1, _, _⟩ := hlk
        simp only at hp0 hp1
        obtain ⟨p, rfl⟩ := Int.eq_ofNat_of_zero_le hp0
        rw [Int.toNat_natCast] at hst
        have h64 : 64 * p + 64 ≤ safe.size := by have := HOK.out.1; omega
        generalize crashL safe.data.toList ((ls.zip ks).take k) = cur at HBr hpl hst
        have HST : Hid (crashL safe.data.toList ((ls.zip ks).take (k + 1)) = putAt cur (64 * p) (keptT ⟨(p : Int), dt, sn⟩ kv).data.toList) := hst
        have HKO : Hid (∀ w, Calls _ _ _ w _) := fun w => keptOf_any w ⟨(p : Int), dt, sn⟩ kv
        generalize keptT ⟨(p : Int), dt, sn⟩ kv = kt at HST HKO hkz
        have hktl : kt.data.toList.length ≤ 64 := by simpa using hkz
        have HPU : Hid (∀ w5, Below wr.drew.heap.size wr.drew w5 → Calls _ _ _ w5 _) := fun w5 h => putLine_kept w5 w2.heap.size cp cur p kt (HBr.out.below (show Below wr.heap.size wr w5 from ⟨h.os, h.tape, h.output, h.size, h.block⟩) hgr) (by omega) (by omega) hktl (by omega)
        rw [hpl] at HPU
        have HBd : Hid (Below W.heap.size W wr.drew) := HB.out.drew
        have HStep : Hid (∀ w5, Below wr.drew.heap.size wr.drew w5 → Below W.heap.size W w5) := fun w5 h => HBd.out.trans (h.mono HBd.out.size)
        have HFin : Hid (∀ w5, Below wr.drew.heap.size wr.drew w5 → Bytes (w5.setCells w2.heap.size (64 * p) (cellsOfText kt)) w2.heap.size (putAt cur (64 * p) kt.data.toList) ∧ Below W.heap.size W (w5.setCells w2.heap.size (64 * p) (cellsOfText kt)) ∧ w2.heap.size < (w5.setCells w2.heap.size (64 * p) (cellsOfText kt)).heap.size) := fun w5 h =>
          ⟨bytes_splice (HBr.out.below (show Below wr.heap.size wr w5 from ⟨h.os, h.tape, h.output, h.size, h.block⟩) hgr) _ _ (by omega), below_cells (HStep.out w5 h) hg2 _ _, by rw [size_cells]; exact Nat.lt_of_lt_of_le hgr h.size⟩
        have hlti : (k : Int) < (ls.length : Int) := by omega
        have hlti2 : (k : Int) < (ks.length : Int) := by omega
        have hk0 : (0 : Int) ≤ (k : Int) := by omega
        clear hst hp0 hp1 hkz hktl c0 c1 c2 c3
        go_wp2
        go_region_held3 (fun w' => w'.cell? ⟨w.heap.size, 1, none⟩ = some (.slice (some ⟨bb, off, none⟩) ls.length cap) ∧ w'.cell? ⟨bb, off + k * 3, none⟩ = some (.int .i64 (p : Int)) ∧ w'.cell? ⟨bb, off + k * 3 + 1, none⟩ = some (.string dt) ∧ w'.cell? ⟨bb, off + k * 3 + 2, none⟩ = some (.string sn) ∧ w'.cell? ⟨b2, o2 + k, none⟩ = some (.int .i64 kv))
          (first | exact HCS.out _ HBd.out | exact HCS.out _ h5 | exact HCS.out _ h6)
          (first | (go_at_call 49; refine (HKO.out wr.drew).mono ?_; rintro e w5 ⟨rfl, hb5⟩; have h5 := HStep.out w5 hb5) | (go_at_call 44; refine (HPU.out w5 hb5).mono ?_; rintro e w6 ⟨rfl, rfl⟩; have h6 := (HFin.out w5 hb5).2.1))
        all_goals
          have Z : Hid (_ ∧ _ ∧ _) := HFin.out w5 hb5
          clear hb5 h5 h6
          go_wp2
          go_roundw
          case rel => exact ⟨k + 1, by omega, by omega, by go_num, by rw [HST.out]; exact Z.out.1, Z.out.2.1, Z.out.2.2⟩
          case measure => simp [intOf]; omega
      · have he : (ls.zip ks).take k = ls.zip ks := List.take_of_length_le (by rw [List.length_zip]; omega)
        rw [he] at HBr hpl
        have hcv := HBr.out.text cp
        rw [hpl] at hcv
        have HF : Hid (crashStr safe ls ks = ⟨(crashL safe.data.toList (ls.zip ks)).toArray⟩) := rfl
        generalize ByteArray.mk (crashL safe.data.toList (ls.zip ks)).toArray = st at hcv HF
        obtain ⟨t0, t1, y0, y1⟩ := HT.out wr HB.out
        have HE : Hid (∀ S V : Value, Below w.heap.size w ((wr.setCell ⟨w.heap.size + 1, 0, none⟩ S).setCell ⟨w.heap.size + 1, 1, none⟩ V)) := fun S V =>
          (HBw.out.setCell (p := ⟨w.heap.size + 1, 0, none⟩) (by show w.heap.size ≤ w.heap.size + 1; omega) _).setCell (p := ⟨w.heap.size + 1, 1, none⟩) (by show w.heap.size ≤ w.heap.size + 1; omega) _
        have hne2 : (⟨w.heap.size + 1, 0, none⟩ : Addr) ≠ ⟨w.heap.size + 1, 1, none⟩ := fun q => by have := congrArg Addr.off q; simp at this
        have q0 : ∀ S V : Value, ((wr.setCell ⟨w.heap.size + 1, 0, none⟩ S).setCell ⟨w.heap.size + 1, 1, none⟩ V).cell? ⟨w.heap.size + 1, 0, none⟩ = some S := fun S V => by
          rw [World.cell?_setCell_other _ _ _ _ (Ne.symm hne2)]
          exact World.cell?_setCell_same _ _ _ t0
        have q1 : ∀ S V : Value, ((wr.setCell ⟨w.heap.size + 1, 0, none⟩ S).setCell ⟨w.heap.size + 1, 1, none⟩ V).cell? ⟨w.heap.size + 1, 1, none⟩ = some V := fun S V =>
          World.cell?_setCell_same _ _ _ (by rw [World.cell?_setCell_other _ _ _ _ hne2]; exact t1)
        have hge : ¬ (k : Int) < (ls.length : Int) := by omega
        clear hne2
        go_wp2
        refine bodyPost_ret (v := .agg #[.string st, .slice none 0 0]) (by simp [results, Try.results22, go_sem, q0, q1]) rfl ?_
        exact ⟨by rw [HF.out], HE.out _ _⟩
end Go.Proofs.Ytgpmpijaggnocaa.dev
