/-
  Lines laid over a text: what the program's and the specification's Seen return; nothing that was there is written.
-/
import Derived.Test.YtgpmpijaggnocaaDev4
import Derived.Test.YtgpmpijaggnocaaDev5
import Derived.Test.YtgpmpijaggnocaaBb
import Derived.Lib.LazyBuf
import Derived.Outline
namespace Go.Proofs.Ytgpmpijaggnocaa.dev
open Go.RowKit
open bb later

/-- A text with other bytes from a place on. -/
def putAt (l : List UInt8) (o : Nat) (t : List UInt8) : List UInt8 := l.take o ++ t ++ l.drop (o + t.length)
theorem putAt_len (l : List UInt8) (o : Nat) (t : List UInt8) (h : o + t.length ≤ l.length) : (putAt l o t).length = l.length := by
  simp [putAt]; omega
def seenL (safe : List UInt8) (ls : List Ln) : List UInt8 := ls.foldl (fun acc l => putAt acc (64 * l.place.toNat) l.data.data.toList) safe
theorem seenL_snoc (safe : List UInt8) (ls : List Ln) (l : Ln) : seenL safe (ls ++ [l]) = putAt (seenL safe ls) (64 * l.place.toNat) l.data.data.toList := by
  unfold seenL; rw [List.foldl_append]; rfl
theorem seenL_take (safe : List UInt8) (ls : List Ln) (k : Nat) (hk : k < ls.length) : seenL safe (ls.take (k + 1)) = putAt (seenL safe (ls.take k)) (64 * ls[k].place.toNat) ls[k].data.data.toList := by
  rw [List.take_succ_eq_append_getElem hk, seenL_snoc]

def cellsOfText (t : ByteArray) : List Value := t.data.toList.map fun x => Value.int .u8 (x.toNat : Int)
theorem putAt_get (l : List UInt8) (o : Nat) (t : List UInt8) (j : Nat) (h : o + t.length ≤ l.length) : (putAt l o t)[j]? = if j < o then l[j]? else if j < o + t.length then t[j - o]? else l[j]? := by
  have hmo : (l.take o).length = o := by simp; omega
  unfold putAt
  by_cases h1 : j < o
  · rw [if_pos h1, List.append_assoc, List.getElem?_append_left (by omega), List.getElem?_take, if_pos h1]
  · rw [if_neg h1]
    by_cases h2 : j < o + t.length
    · rw [if_pos h2, List.getElem?_append_left (by rw [List.length_append, hmo]; exact h2), List.getElem?_append_right (by omega), hmo]
    · rw [if_neg h2, List.getElem?_append_right (by rw [List.length_append, hmo]; omega), List.length_append, hmo, List.getElem?_drop]
      congr 1
      omega
theorem bytes_splice {w : World} {g : Nat} {l : List UInt8} (h : Bytes w g l) (o : Nat) (t : ByteArray) (ho : o + t.data.toList.length ≤ l.length) : Bytes (w.setCells g o (cellsOfText t)) g (putAt l o t.data.toList) := by
  intro j hj
  have hget := putAt_get l o t.data.toList j ho
  rw [List.getElem?_eq_getElem hj] at hget
  rw [putAt_len l o _ ho] at hj
  have hlen : (cellsOfText t).length = t.data.toList.length := by simp [cellsOfText]
  rw [World.frozen?_setCells]
  refine ⟨?_, (h j hj).2⟩
  by_cases h1 : j < o
  · rw [if_pos h1, List.getElem?_eq_getElem hj] at hget
    rw [World.cell?_setCells_out g _ o w ⟨g, j, none⟩ (fun _ _ => .inl h1), (h j hj).1, Option.some.inj hget]
  · rw [if_neg h1] at hget
    by_cases h2 : j < o + t.data.toList.length
    · rw [if_pos h2, List.getElem?_eq_getElem (by omega)] at hget
      have hi : j - o < (cellsOfText t).length := by omega
      have := World.cell?_setCells_in g _ o w (fun q hq => by rw [(h (o + q) (by omega)).1]; rfl) (j - o) hi
      rw [show o + (j - o) = j by omega] at this
      rw [this, Option.some.inj hget]
      simp [cellsOfText]
    · rw [if_neg h2, List.getElem?_eq_getElem hj] at hget
      rw [World.cell?_setCells_out g _ o w ⟨g, j, none⟩ (fun _ _ => .inr (by rw [hlen]; show o + t.data.toList.length ≤ j; omega)), (h j hj).1, Option.some.inj hget]

theorem size8 : ∀ w, (Go.sizeOf 5).run Try.prog w = .ok 1 w := fun w => by kernel_rfl

theorem copy_run (w : World) (g o dLen dCap : Nat) (l : List UInt8) (dt : ByteArray) (ty : TypeId) (hB : Bytes w g l) (ho : o + dt.data.toList.length ≤ l.length) (hd : dt.data.toList.length ≤ dLen) :
    (Builtin.copy_ #[22, 9] ty #[.slice (some ⟨g, o, none⟩) dLen dCap, .string dt]).run Try.prog w = .ok (goInt dt.size) (w.setCells g o (cellsOfText dt)) := by
  have hz : dt.size = dt.data.toList.length := by simp
  exact Go.run_copy_string (P := Try.prog) w 22 9 ty 5 g o dLen dCap dt Try.underlying22 size8 (by omega) (fun j hj => by rw [(hB (o + j) (by omega)).1]; rfl) (fun j hj => (hB (o + j) (by omega)).2)
theorem below_cells {B g : Nat} {a w : World} (h : Below B a w) (hg : B ≤ g) (o : Nat) (vs : List Value) : Below B a (w.setCells g o vs) := Go.below_setCells hg vs o w h
theorem size_cells (g : Nat) : ∀ (vs : List Value) (o : Nat) (w : World), (w.setCells g o vs).heap.size = w.heap.size
  | [], _, _ => rfl
  | v :: r, o, w => by rw [World.setCells, size_cells g r]; simp

theorem putLine_any (w : World) (g cap : Nat) (l : List UInt8) (pl : Int) (dt : ByteArray) (hB : Bytes w g l) (hl : l.length ≤ 1048576) (h0 : 0 ≤ pl) (hle : 64 * pl.toNat + dt.data.toList.length ≤ l.length) (hpos : 0 < dt.data.toList.length) (hc : l.length ≤ cap) :
    Calls Try.prog 44 #[.slice (some ⟨g, 0, none⟩) l.length cap, .int .i64 pl, .string dt] w fun e w' => e = .returned (.tuple #[]) ∧ w' = w.setCells g (64 * pl.toNat) (cellsOfText dt) := by
  obtain ⟨p, rfl⟩ := Int.eq_ofNat_of_zero_le h0
  rw [Int.toNat_natCast] at hle ⊢
  have hb1 : 64 * (p : Int) ≤ (l.length : Int) := by omega
  have hcne : ¬ cap = p * 64 := by omega
  have hcp := fun ty => copy_run w g (p * 64) (l.length - p * 64) (cap - p * 64) l dt ty hB (by omega) (by omega)
  clear hB
  go_enter Try.func44, Try.ntmps44
  go_wp2
  go_end0
  exact ⟨rfl, by rw [Nat.mul_comm]⟩
theorem prefix_ok {safe : ByteArray} {ls : List Ln} (h : DevOk safe ls) (k : Nat) : (seenL safe.data.toList (ls.take k)).length = safe.size := by
  induction k with
  | zero => simp [seenL]
  | succ k ih =>
    by_cases hk : k < ls.length
    · have hl := h.2.2.2 k hk
      rw [seenL_take _ _ _ hk, putAt_len _ _ _ (by rw [ih]; have h4 := hl.2.2.2.1; have h3 := hl.2.2.1; have h2 := hl.2.1; have h1 := h.1; simp; omega), ih]
    · rw [List.take_of_length_le (by omega)]
      rw [List.take_of_length_le (by omega)] at ih
      exact ih
def seenStr (safe : ByteArray) (ls : List Ln) : ByteArray := ⟨(seenL safe.data.toList ls).toArray⟩

theorem impl_seen_no (w : World) (safe : ByteArray) (a : Option Addr) (cap : Nat) (ls : List Ln) (hs : safe.size ≤ 1048576) (hn : ls.length ≤ 1048576) (hl : Lines w a ls) (hz : ∀ i (hi : i < ls.length), ls[i].data.size ≤ 1048576 ∧ ls[i].sent.size ≤ 1048576) (hbad : ¬ DevOk safe ls) :
    Calls Try.prog 14 #[.agg #[.string safe, .slice a ls.length cap]] w fun e w' => e = .returned (.string ⟨#[]⟩) ∧ Below w.heap.size w w' := by
  have hb0 : Below w.heap.size w (w.alloc (.cells #[.string safe, .slice a ls.length cap] 26)) := by go_grown
  have HC : Hid (Calls _ _ _ _ _) := impl_ok (w.alloc (.cells #[.string safe, .slice a ls.length cap] 26)) safe a cap ls hs hn (hl.below hb0) hz
  clear hl hz
  go_enter Try.func14, Try.ntmps14
  go_wp2_with fail
  refine HC.out.mono ?_
  rintro e w2 ⟨b, rfl, hb, hb2⟩
  have hf : b = false := by
    cases b
    · rfl
    · exact absurd (hb.1 rfl) hbad
  subst hf
  clear hb
  go_wp2
  go_ret
  exact ⟨rfl, hb0.trans (hb2.mono hb0.size)⟩

set_option maxHeartbeats 2000000 in
theorem impl_seen (w : World) (safe : ByteArray) (a : Option Addr) (cap : Nat) (ls : List Ln) (hs : safe.size ≤ 1048576) (hn : ls.length ≤ 1048576) (hl : Lines w a ls) (hz : ∀ i (hi : i < ls.length), ls[i].data.size ≤ 1048576 ∧ ls[i].sent.size ≤ 1048576) (hok : DevOk safe ls) :
    Calls Try.prog 14 #[.agg #[.string safe, .slice a ls.length cap]] w fun e w' => e = .returned (.string (seenStr safe ls)) ∧ Below w.heap.size w w' := by
  have HL : Hid (Lines w a ls) := hl
  have HOK : Hid (DevOk safe ls) := hok
  have HPL : Hid (∀ k, (seenL safe.data.toList (ls.take k)).length = safe.size) := prefix_ok hok
  obtain ⟨W, hW⟩ : ∃ W, W = w.alloc (.cells #[.string safe, .slice a ls.length cap] 26) := ⟨_, rfl⟩
  have HB0 : Hid (Below w.heap.size w W) := by rw [hW]; exact (Below.refl _ _).alloc (Nat.le_refl _) _
  have hsz : w.heap.size < W.heap.size := by rw [hW]; simp
  have k0 : W.cell? ⟨w.heap.size, 0, none⟩ = some (.string safe) := by rw [hW, World.cell?_alloc_new]; rfl
  have k1 : W.cell? ⟨w.heap.size, 1, none⟩ = some (.slice a ls.length cap) := by rw [hW, World.cell?_alloc_new]; rfl
  have HK : Hid (∀ w', Below W.heap.size W w' → w'.cell? ⟨w.heap.size, 0, none⟩ = some (.string safe) ∧ w'.cell? ⟨w.heap.size, 1, none⟩ = some (.slice a ls.length cap)) := fun w' h =>
    ⟨by rw [h.cell (p := ⟨w.heap.size, 0, none⟩) hsz]; exact k0, by rw [h.cell (p := ⟨w.heap.size, 1, none⟩) hsz]; exact k1⟩
  have HW : Hid (W = w.alloc (.cells #[.string safe, .slice a ls.length cap] 26)) := hW
  have HC : Hid (Calls _ _ _ _ _) := impl_ok W safe a cap ls hs hn (hl.below HB0.out) hz
  clear k0 k1 hW hl hz hok
  go_enter Try.func14, Try.ntmps14
  go_wp2_with fail
  rw [← HW.out]
  refine HC.out.mono ?_
  rintro e w2 ⟨b, rfl, hb, hb2⟩
  have hf : b = true := hb.2 HOK.out
  subst hf
  have HB2 : Hid (Below W.heap.size W w2) := hb2
  clear hb hb2
  obtain ⟨m0, m1⟩ := HK.out w2 HB2.out
  have hrt := run_told safe w2
  have htb := told_below w2 safe
  have hby := told_bytes w2 safe
  have hts := told_size w2 safe
  have hcp : safe.size ≤ capOf w2 safe := grownCap_ge _ _ _ _
  generalize told w2 safe = w3 at hrt htb hby hts
  generalize capOf w2 safe = cp at hrt hcp
  have HB3 : Hid (Below W.heap.size W w3) := HB2.out.trans (htb.mono HB2.out.size)
  have HBy : Hid (Bytes w3 w2.heap.size safe.data.toList) := hby
  have HTS : Hid (w3.heap.size = w2.heap.size + 1) := hts
  have hg2 : W.heap.size ≤ w2.heap.size := HB2.out.size
  have hg3 : w2.heap.size < w3.heap.size := by omega
  clear htb hby hts
  obtain ⟨n0, n1⟩ := HK.out w3 HB3.out
  go_wp2
  clear hrt m0 m1 n0 n1
  go_loopw [15] (fun i wr => ∃ k : Nat, k ≤ ls.length ∧ i = .int .i64 k ∧ Bytes wr w2.heap.size (seenL safe.data.toList (ls.take k)) ∧ Below W.heap.size W wr ∧ w2.heap.size < wr.heap.size) (fun i _ => ls.length - (intOf i).toNat)
  case atStart => exact ⟨0, Nat.zero_le _, rfl, by simpa [seenL] using HBy.out, HB3.out, hg3⟩
  case round =>
    obtain ⟨k, hk, rfl, hbr, hb, hgr⟩ := hrel
    have HBr : Hid (Bytes wr w2.heap.size (seenL safe.data.toList (ls.take k))) := hbr
    have HB : Hid (Below W.heap.size W wr) := hb
    have HBw : Hid (Below w.heap.size w wr) := HB0.out.trans (hb.mono HB0.out.size)
    clear hbr hb
    have hpl := HPL.out k
    by_cases hlt : k < ls.length
    · have hlk := HOK.out.2.2.2 k hlt
      have hst := seenL_take safe.data.toList ls k hlt
      obtain ⟨bb, off, rfl, c0, c1, c2⟩ := (HL.out k hlt).below HBw.out
      generalize ls[k] = l at c0 c1 c2 hlk hst
      obtain ⟨pl, dt, sn⟩ := l
      simp only at c0 c1 c2 hst
      obtain ⟨_, hp0, hp1, hd64, _⟩ := hlk
      simp only at hp0 hp1 hd64
      have hdl : dt.data.toList.length = 64 := by simpa using hd64
      have h64 : 64 * pl.toNat + 64 ≤ safe.size := by have := HOK.out.1; omega
      generalize seenL safe.data.toList (ls.take k) = cur at HBr hpl hst
      have HST : Hid (seenL safe.data.toList (ls.take (k + 1)) = putAt cur (64 * pl.toNat) dt.data.toList) := hst
      have HX : Hid (Below wr.heap.size wr (wr.alloc (.cells #[.int .i64 pl, .string dt, .string sn] 46))) := (Below.refl _ _).alloc (Nat.le_refl _) _
      have HP : Hid (Calls _ _ _ _ _) := putLine_any (wr.alloc (.cells #[.int .i64 pl, .string dt, .string sn] 46)) w2.heap.size cp cur pl dt (HBr.out.below HX.out hgr) (by omega) hp0 (by omega) (by omega) (by omega)
      rw [hpl] at HP
      have HN : Hid (Bytes ((wr.alloc (.cells #[.int .i64 pl, .string dt, .string sn] 46)).setCells w2.heap.size (64 * pl.toNat) (cellsOfText dt)) w2.heap.size (putAt cur (64 * pl.toNat) dt.data.toList)) := bytes_splice (HBr.out.below HX.out hgr) _ _ (by omega)
      have HNB : Hid (Below W.heap.size W ((wr.alloc (.cells #[.int .i64 pl, .string dt, .string sn] 46)).setCells w2.heap.size (64 * pl.toNat) (cellsOfText dt))) := below_cells (HB.out.trans (HX.out.mono HB.out.size)) hg2 _ _
      have hns : w2.heap.size < ((wr.alloc (.cells #[.int .i64 pl, .string dt, .string sn] 46)).setCells w2.heap.size (64 * pl.toNat) (cellsOfText dt)).heap.size := by rw [size_cells]; simp; omega
      clear hst hp0 hp1 hd64 hdl h64
      go_wp2_with fail
      refine HP.out.mono ?_
      rintro e w5 ⟨rfl, rfl⟩
      generalize (wr.alloc (.cells #[.int .i64 pl, .string dt, .string sn] 46)).setCells w2.heap.size (64 * pl.toNat) (cellsOfText dt) = w6 at HN HNB hns
      clear c0 c1 c2
      go_wp2
      go_roundw
      case rel => exact ⟨k + 1, by omega, by go_num, by rw [HST.out]; exact HN.out, HNB.out, hns⟩
      case measure => simp [intOf]; omega
    · have he : ls.take k = ls := List.take_of_length_le (by omega)
      rw [he] at HBr hpl
      have hcv := HBr.out.text cp
      rw [hpl] at hcv
      have HF : Hid (seenStr safe ls = ⟨(seenL safe.data.toList ls).toArray⟩) := rfl
      generalize ByteArray.mk (seenL safe.data.toList ls).toArray = st at hcv HF
      go_wp2
      go_ret
      exact ⟨by rw [HF.out]; rfl, HBw.out⟩
end Go.Proofs.Ytgpmpijaggnocaa.dev
