/-
  What the program's Fence returns: what was sent is safe, and the lines that are not are kept with nothing sent, in new memory; nothing that was there is written.
-/
import Derived.Test.YtgpmpijaggnocaaEvict1
namespace Go.Proofs.Ytgpmpijaggnocaa.dev
open Go.RowKit Go.Maps
open bb later

def fenceLn (l : Ln) : Option Ln := if (l.data.toList == l.sent.toList) = true then none else some ⟨l.place, l.data, ⟨#[]⟩⟩
def fenceL (ls : List Ln) : List Ln := ls.filterMap fenceLn
theorem fenceLn_place {l x : Ln} (h : fenceLn l = some x) : x.place = l.place := by
  unfold fenceLn at h
  split at h
  · cases h
  · cases h; rfl
theorem fenceL_le (ls : List Ln) : (fenceL ls).length ≤ ls.length := List.length_filterMap_le _ _
theorem fenceL_mem {ls : List Ln} {x : Ln} (h : x ∈ fenceL ls) : ∃ l ∈ ls, x.place = l.place := by
  obtain ⟨l, hl, he⟩ := List.mem_filterMap.1 h
  exact ⟨l, hl, fenceLn_place he⟩
theorem fenceL_sorted (ls : List Ln) (h : ls.Pairwise (fun a b => a.place < b.place)) : (fenceL ls).Pairwise (fun a b => a.place < b.place) := by
  unfold fenceL
  rw [List.pairwise_filterMap]
  exact h.imp fun {a b} hab x hx y hy => by rw [fenceLn_place hx, fenceLn_place hy]; exact hab
theorem find_far {ls : List Ln} {q : Int} (h : ∀ l ∈ ls, q < l.place) : findAt ls q = none := by
  unfold findAt
  rw [List.find?_eq_none]
  intro x hx
  have := h x hx
  simp
  omega
theorem fenceL_find (ls : List Ln) (hp : ls.Pairwise (fun a b => a.place < b.place)) (q : Int) : findAt (fenceL ls) q = (findAt ls q).bind fenceLn := by
  induction ls with
  | nil => rfl
  | cons l t ih =>
    rw [List.pairwise_cons] at hp
    have ih := ih hp.2
    have hc : fenceL (l :: t) = (match fenceLn l with | none => fenceL t | some x => x :: fenceL t) := by
      unfold fenceL
      rw [List.filterMap_cons]
      cases fenceLn l <;> rfl
    have hf1 : ∀ (x : Ln) (r : List Ln), findAt (x :: r) q = if x.place = q then some x else findAt r q := fun x r => by
      unfold findAt
      rw [List.find?_cons]
      by_cases h : x.place = q
      · have h2 : (x.place == q) = true := by simpa using h
        rw [h2, if_pos h]
      · have h2 : (x.place == q) = false := by simpa using h
        rw [h2, if_neg h]
    rw [hc, hf1 l t]
    by_cases e : l.place = q
    · have h2 : findAt (fenceL t) q = none := find_far (fun x hx => by
        obtain ⟨y, hy, he⟩ := fenceL_mem hx
        have := hp.1 y hy
        omega)
      rw [if_pos e]
      cases hf : fenceLn l with
      | none => simp only [Option.bind_some, hf]; exact h2
      | some x =>
        have hx := fenceLn_place hf
        simp only [Option.bind_some, hf]
        rw [hf1 x (fenceL t), if_pos (by omega)]
    · rw [if_neg e]
      cases hf : fenceLn l with
      | none => exact ih
      | some x =>
        have hx := fenceLn_place hf
        show findAt (x :: fenceL t) q = _
        rw [hf1 x (fenceL t), if_neg (by omega)]
        exact ih
theorem upd_fold (g : Ln → Option Ln) (ls : List Ln) (hp : ls.Pairwise (fun a b => a.place < b.place)) : ∀ (f : Int → Option Ln) (p : Int), (ls.foldl (fun f l => upd f l.place (g l)) f) p = (match findAt ls p with | some l => g l | none => f p) := by
  induction ls with
  | nil => intro f p; rfl
  | cons l t ih =>
    intro f p
    rw [List.pairwise_cons] at hp
    rw [List.foldl_cons, ih hp.2]
    unfold findAt
    rw [List.find?_cons]
    by_cases e : l.place = p
    · have hn : t.find? (fun l => l.place == p) = none := by
        rw [List.find?_eq_none]
        intro x hx
        have := hp.1 x hx
        simp
        omega
      rw [hn]
      simp [upd, e]
    · have e1 : (l.place == p) = false := by simpa using e
      rw [e1]
      simp only [upd, if_neg (Ne.symm e)]
def fenceM (ls : List Ln) (k : Nat) : Int → Option Ln := (ls.take k).foldl (fun f l => upd f l.place (fenceLn l)) (byPlace ls)
theorem fenceM_succ (ls : List Ln) (k : Nat) (hk : k < ls.length) : fenceM ls (k + 1) = upd (fenceM ls k) ls[k].place (fenceLn ls[k]) := by
  unfold fenceM
  rw [List.take_succ_eq_append_getElem hk, List.foldl_append]
  rfl
theorem fence_order {safe : ByteArray} {ls : List Ln} (h : DevOk safe ls) : inOrder (fenceM ls ls.length) (safe.size / 64) = fenceL ls := by
  have hp := ok_pairwise h
  refine inOrder_all (fenceL ls) (fenceL_sorted ls hp) (fun l hl => ?_) _ (fun q => ?_) _ (fun l hl => ?_)
  · obtain ⟨y, hy, he⟩ := fenceL_mem hl
    rw [he]; exact (place_ok h y hy).1
  · unfold fenceM
    rw [List.take_length, upd_fold fenceLn ls hp, fenceL_find ls hp, byPlace_find hp]
    cases hf : findAt ls q <;> rfl
  · obtain ⟨y, hy, he⟩ := fenceL_mem hl
    rw [he]; exact (place_ok h y hy).2
def fenceB (safe : List UInt8) (ls : List Ln) : List UInt8 := ls.foldl (fun acc l => putAt acc (64 * l.place.toNat) l.sent.data.toList) safe
theorem fenceB_take (safe : List UInt8) (ls : List Ln) (k : Nat) (hk : k < ls.length) : fenceB safe (ls.take (k + 1)) = putAt (fenceB safe (ls.take k)) (64 * ls[k].place.toNat) ls[k].sent.data.toList := by
  unfold fenceB
  rw [List.take_succ_eq_append_getElem hk, List.foldl_append]
  rfl
theorem sent_len {n p : Int} {l : Ln} (h : LnOk n p l) : l.sent.data.toList.length ≤ 64 := by
  have h1 := h.2.2.2.2
  have h2 : l.sent.data.toList.length = l.sent.size := by simp
  omega
theorem fence_len {safe : ByteArray} {ls : List Ln} (h : DevOk safe ls) (k : Nat) : (fenceB safe.data.toList (ls.take k)).length = safe.size := by
  induction k with
  | zero => simp [fenceB]
  | succ k ih =>
    by_cases hk : k < ls.length
    · have hl := h.2.2.2 k hk
      have h64 := sent_len hl
      rw [fenceB_take _ _ _ hk, putAt_len _ _ _ (by rw [ih]; have h3 := hl.2.2.1; have h2 := hl.2.1; have h1 := h.1; omega), ih]
    · rw [List.take_of_length_le (by omega)]
      rw [List.take_of_length_le (by omega)] at ih
      exact ih
def fenceS (safe : ByteArray) (ls : List Ln) : ByteArray := ⟨(fenceB safe.data.toList ls).toArray⟩

theorem impl_fence_no (w : World) (safe : ByteArray) (a : Option Addr) (cap : Nat) (ls : List Ln) (hs : safe.size ≤ 1048576) (hn : ls.length ≤ 1048576) (hl : Lines w a ls) (hz : ∀ i (hi : i < ls.length), ls[i].data.size ≤ 1048576 ∧ ls[i].sent.size ≤ 1048576) (hbad : ¬ DevOk safe ls) :
    Calls Try.prog 20 #[.agg #[.string safe, .slice a ls.length cap]] w fun e w' => e = .returned (.agg #[.string ⟨#[]⟩, .slice none 0 0]) ∧ Below w.heap.size w w' := by
  obtain ⟨W, hW⟩ : ∃ W, W = start w safe (.slice a ls.length cap) := ⟨_, rfl⟩
  have HS : Hid (Start w W safe (.slice a ls.length cap)) := by rw [hW]; exact start_is _ _ _
  have HW : Hid (W = (w.alloc (.cells #[.string safe, .slice a ls.length cap] 26)).alloc (.cells #[.string ⟨#[]⟩, .slice none 0 0] 26)) := hW
  have HC : Hid (Calls _ _ _ _ _) := impl_ok W safe a cap ls hs hn (hl.below HS.out.below) hz
  clear hl hz hW
  go_enter Try.func20, Try.ntmps20
  go_wp2_with fail
  rw [← HW.out]
  refine HC.out.mono ?_
  rintro e w2 ⟨b, rfl, hb, hb2⟩
  have HB2 : Hid (Below W.heap.size W w2) := hb2
  have hf : b = false := by
    cases b
    · rfl
    · exact absurd (hb.1 rfl) hbad
  subst hf
  clear hb hb2
  have HE : Hid (Ended w w2) := HS.out.ended HB2.out
  have q0 := HE.out.at0; have q1 := HE.out.at1
  have t0 := HS.out.res0 w2 HB2.out; have t1 := HS.out.res1 w2 HB2.out; have y0 := HS.out.fro0 w2 HB2.out; have y1 := HS.out.fro1 w2 HB2.out
  go_wp2
  refine bodyPost_ret (v := .agg #[.string ⟨#[]⟩, .slice none 0 0]) (by simp [results, Try.results20, go_sem, q0, q1]) rfl ?_
  exact ⟨rfl, HE.out.below _ _⟩
set_option maxHeartbeats 8000000 in
theorem impl_fence (w : World) (safe : ByteArray) (a : Option Addr) (cap : Nat) (ls : List Ln) (hs : safe.size ≤ 1048576) (hn : ls.length ≤ 1048576) (hl : Lines w a ls) (hz : ∀ i (hi : i < ls.length), ls[i].data.size ≤ 1048576 ∧ ls[i].sent.size ≤ 1048576) (hok : DevOk safe ls) :
    Calls Try.prog 20 #[.agg #[.string safe, .slice a ls.length cap]] w fun e w' => ∃ u, e = .returned (.agg #[.string (fenceS safe ls), u]) ∧ w'.ownsRow w.heap.size 46 3 u (fenceL ls).length (cellsOfLines (fenceL ls)) ∧ Below w.heap.size w w' := by
  obtain ⟨W, hW⟩ : ∃ W, W = start w safe (.slice a ls.length cap) := ⟨_, rfl⟩
  have HS : Hid (Start w W safe (.slice a ls.length cap)) := by rw [hW]; exact start_is _ _ _
  have HW : Hid (W = (w.alloc (.cells #[.string safe, .slice a ls.length cap] 26)).alloc (.cells #[.string ⟨#[]⟩, .slice none 0 0] 26)) := hW
  have HC : Hid (Calls _ _ _ _ _) := impl_ok W safe a cap ls hs hn (hl.below HS.out.below) hz
  have HLC : Hid (∀ w, Calls _ _ _ w _) := fun w => lineCount_any w safe (.slice a ls.length cap) hs
  have HLP : Hid (∀ w', Below W.heap.size W w' → Calls _ _ _ w' _) := fun w' h => linesByPlace_any w' safe a cap ls hn ((hl.below HS.out.below).below h) hok
  have HL : Hid (∀ w', Below W.heap.size W w' → Lines w' a ls) := fun w' h => (hl.below HS.out.below).below h
  have HOK : Hid (DevOk safe ls) := hok
  have hcn : safe.size / 64 ≤ 1048576 := by omega
  have HCN : Hid (safe.size / 64 ≤ 1048576) := hcn
  have HPL : Hid (∀ k, (fenceB safe.data.toList (ls.take k)).length = safe.size) := fence_len hok
  clear hl hz hW hok hcn
  go_enter Try.func20, Try.ntmps20
  go_wp2_with fail
  rw [← HW.out]
  refine HC.out.mono ?_
  rintro e w3 ⟨b, rfl, hb, hb2⟩
  have hbt : b = true := hb.2 HOK.out
  subst hbt
  have HB3 : Hid (Below W.heap.size W w3) := hb2
  clear hb hb2
  have n0 := HS.out.arg0 w3 HB3.out; have n1 := HS.out.arg1 w3 HB3.out
  have hrt := run_told safe w3
  have htb := told_below w3 safe
  have hby := told_bytes w3 safe
  have hts := told_size w3 safe
  have hcp : safe.size ≤ capOf w3 safe := grownCap_ge _ _ _ _
  generalize told w3 safe = w3b at hrt htb hby hts
  generalize capOf w3 safe = cp at hrt hcp
  have HB3b : Hid (Below W.heap.size W w3b) := HB3.out.trans (htb.mono HB3.out.size)
  have HBy : Hid (Bytes w3b w3.heap.size safe.data.toList) := hby
  have hg3 : w3.heap.size < w3b.heap.size := by omega
  have k0 := HS.out.arg0 w3b HB3b.out; have k1 := HS.out.arg1 w3b HB3b.out
  clear htb hby hts
  go_wp2_with fail
  refine (HLP.out w3b HB3b.out).mono ?_
  rintro e w4 ⟨m, rfl, hm, hmp, hb4⟩
  have HB4 : Hid (Below W.heap.size W w4) := HB3b.out.trans (hb4.mono HB3b.out.size)
  have HM : Hid (MapIs w4 m ls.length (byPlace ls)) := hmp
  have HBy4 : Hid (Bytes w4 w3.heap.size safe.data.toList) := HBy.out.below hb4 hg3
  have hmW : W.heap.size ≤ m := Nat.le_trans HB3b.out.size hm
  have hmg : w3.heap.size < m := by omega
  have hWg : W.heap.size ≤ w3.heap.size := HB3.out.size
  have hg4 : w3.heap.size < w4.heap.size := Nat.lt_of_lt_of_le hg3 hb4.size
  clear hb4 hmp n0 n1 k0 k1 hm hrt HBy hg3
  have n1 := HS.out.arg1 w4 HB4.out
  go_wp2
  clear n1
  go_loopw [19] (fun i wr => ∃ (k n : Nat), k ≤ ls.length ∧ i = .int .i64 k ∧ n ≤ ls.length + k ∧ MapIs wr m n (fenceM ls k) ∧ Bytes wr w3.heap.size (fenceB safe.data.toList (ls.take k)) ∧ w3.heap.size < wr.heap.size ∧ Below W.heap.size W wr) (fun i _ => ls.length - (intOf i).toNat)
  case atStart => exact ⟨0, ls.length, Nat.zero_le _, rfl, by omega, HM.out, by simpa [fenceB] using HBy4.out, hg4, HB4.out⟩
  case round =>
    obtain ⟨k, n, hk, rfl, hnk, hmp, hbr, hgr, hb⟩ := hrel
    have HMr : Hid (MapIs wr m n (fenceM ls k)) := hmp
    have HBr : Hid (Bytes wr w3.heap.size (fenceB safe.data.toList (ls.take k))) := hbr
    have HB : Hid (Below W.heap.size W wr) := hb
    clear hmp hbr hb
    have hpl := HPL.out k
    by_cases hlt : k < ls.length
    · have hlk := HOK.out.2.2.2 k hlt
      have hst := fenceB_take safe.data.toList ls k hlt
      have hsm := fenceM_succ ls k hlt
      obtain ⟨bb, off, rfl, c0, c1, c2⟩ := HL.out wr HB.out k hlt
      have hsl := sent_len hlk
      generalize ls[k] = l at c0 c1 c2 hlk hst hsm hsl
      obtain ⟨pl, dt, sn⟩ := l
      simp only at c0 c1 c2 hst hsm hsl
      obtain ⟨_, hp0, hp1, hd64, _⟩ := hlk
      simp only at hp0 hp1 hd64
      obtain ⟨p, rfl⟩ := Int.eq_ofNat_of_zero_le hp0
      rw [Int.toNat_natCast] at hst
      have h64 : 64 * p + 64 ≤ safe.size := by have := HOK.out.1; omega
      generalize fenceB safe.data.toList (ls.take k) = cur at HBr hpl hst
      have HST : Hid (fenceB safe.data.toList (ls.take (k + 1)) = putAt cur (64 * p) sn.data.toList) := hst
      have hwf : (Lit.int .i64 (p : Int)).wf = true := wf_small _ (by omega) (by omega)
      have hlti : (k : Int) < (ls.length : Int) := by omega
      obtain ⟨X, hX⟩ : ∃ X, X = wr.alloc (.cells #[.int .i64 (p : Int), .string dt, .string sn] 46) := ⟨_, rfl⟩
      have hBX : Below wr.heap.size wr X := by rw [hX]; exact (Below.refl _ _).alloc (Nat.le_refl _) _
      have HBX : Hid (Below W.heap.size W X) := HB.out.trans (hBX.mono HB.out.size)
      have HMX : Hid (MapIs X m n (fenceM ls k)) := HMr.out.below hBX
      have HXB : Hid (Bytes X w3.heap.size cur) := HBr.out.below hBX hgr
      have hXg : w3.heap.size < X.heap.size := Nat.lt_of_lt_of_le hgr hBX.size
      have x0 : X.cell? ⟨wr.heap.size, 0, none⟩ = some (.int .i64 (p : Int)) := by rw [hX, World.cell?_alloc_new]; rfl
      have x1 : X.cell? ⟨wr.heap.size, 1, none⟩ = some (.string dt) := by rw [hX, World.cell?_alloc_new]; rfl
      have x2 : X.cell? ⟨wr.heap.size, 2, none⟩ = some (.string sn) := by rw [hX, World.cell?_alloc_new]; rfl
      have HX : Hid (X = wr.alloc (.cells #[.int .i64 (p : Int), .string dt, .string sn] 46)) := hX
      have HPU : Hid (Calls _ _ _ _ _) := putLine_kept X w3.heap.size cp cur p sn HXB.out (by omega) (by omega) hsl (by omega)
      rw [hpl] at HPU
      have hne3 : wr.heap.size ≠ w3.heap.size := by omega
      have HX1 : Hid (Below W.heap.size W (X.setCells w3.heap.size (64 * p) (cellsOfText sn)) ∧ MapIs (X.setCells w3.heap.size (64 * p) (cellsOfText sn)) m n (fenceM ls k) ∧ Bytes (X.setCells w3.heap.size (64 * p) (cellsOfText sn)) w3.heap.size (putAt cur (64 * p) sn.data.toList) ∧ w3.heap.size < (X.setCells w3.heap.size (64 * p) (cellsOfText sn)).heap.size ∧ (∀ o v, X.cell? ⟨wr.heap.size, o, none⟩ = some v → (X.setCells w3.heap.size (64 * p) (cellsOfText sn)).cell? ⟨wr.heap.size, o, none⟩ = some v)) :=
        ⟨below_cells HBX.out hWg _ _, HMX.out.kept (grown_cells _ _ _ _) (by intro q; injection q with q; omega), bytes_splice HXB.out _ _ (by omega), by rw [size_cells]; exact hXg, fun o v hv => by
          have hgc := grown_cells w3.heap.size (cellsOfText sn) (64 * p) X
          have heq : (X.setCells w3.heap.size (64 * p) (cellsOfText sn)).heap[wr.heap.size]? = X.heap[wr.heap.size]? := hgc.block wr.heap.size (World.block_lt_of_cell? X _ hv) (by intro q; injection q with q; omega)
          simp only [World.cell?, heq] at hv ⊢
          exact hv⟩
      clear hX hBX hst hsl hp0 hp1
      go_wp2_with (first | (rw [← HX.out]) | fail)
      refine HPU.out.mono ?_
      rintro e X1 ⟨rfl, rfl⟩
      generalize X.setCells w3.heap.size (64 * p) (cellsOfText sn) = X1 at HX1
      obtain ⟨y1, y2, y3, y4, y5⟩ := HX1.out
      have z0 := y5 0 _ x0; have z1 := y5 1 _ x1; have z2 := y5 2 _ x2
      have HM1 : Hid (MapIs X1 m n (fenceM ls k)) := y2
      have HXB1 : Hid (Bytes X1 w3.heap.size (putAt cur (64 * p) sn.data.toList)) := y3
      have HBX1 : Hid (Below W.heap.size W X1) := y1
      have hnm : n < maxLen := by unfold maxLen; omega
      clear y1 y2 y3 y5 x0 x1 x2
      cases hcmp : (dt.toList == sn.toList) with
      | true =>
        have HSM : Hid (fenceM ls (k + 1) = upd (fenceM ls k) (p : Int) none) := by
          have h1 := hsm
          unfold fenceLn at h1
          simp only [hcmp, if_true] at h1
          exact h1
        clear hsm
        go_wp2_with (at_delete; refine at_del _ rfl _ _ rfl m n _ rfl HM1.out _ rfl hwf ?_; intro X2 hmX hgX)
        have HM2 : Hid (MapIs X2 m n (fenceM ls (k + 1))) := by
          show MapIs X2 m n (fenceM ls (k + 1))
          rw [HSM.out]; exact hmX
        have HB2 : Hid (Below W.heap.size W X2) := HBX1.out.trans (below_of_grown hgX HBX1.out.size hmW)
        have HXB2 : Hid (Bytes X2 w3.heap.size (putAt cur (64 * p) sn.data.toList)) := bytes_grown HXB1.out hgX (by omega)
        have hXg2 : w3.heap.size < X2.heap.size := Nat.lt_of_lt_of_le y4 hgX.size
        clear hmX hgX y4 z0 z1 z2 c0 c1 c2
        go_wp2
        go_roundw
        case rel => exact ⟨k + 1, n, by omega, by go_num, by omega, HM2.out, by rw [HST.out]; exact HXB2.out, hXg2, HB2.out⟩
        case measure => simp [intOf]; omega
      | false =>
        have HSM : Hid (fenceM ls (k + 1) = upd (fenceM ls k) (p : Int) (some ⟨(p : Int), dt, ⟨#[]⟩⟩)) := by
          have h1 := hsm
          unfold fenceLn at h1
          simp only [hcmp] at h1
          exact h1
        clear hsm
        go_wp2_with (at_mapUpdate; refine at_put _ rfl _ _ _ rfl m n _ rfl HM1.out hnm (p : Int) ⟨(p : Int), dt, ⟨#[]⟩⟩ rfl rfl hwf ?_; intro X2 hmX hgX)
        have HM2 : Hid (MapIs X2 m (n + 1) (fenceM ls (k + 1))) := by
          show MapIs X2 m (n + 1) (fenceM ls (k + 1))
          rw [HSM.out]; exact hmX
        have HB2 : Hid (Below W.heap.size W X2) := HBX1.out.trans (below_of_grown hgX HBX1.out.size hmW)
        have HXB2 : Hid (Bytes X2 w3.heap.size (putAt cur (64 * p) sn.data.toList)) := bytes_grown HXB1.out hgX (by omega)
        have hXg2 : w3.heap.size < X2.heap.size := Nat.lt_of_lt_of_le y4 hgX.size
        clear hmX hgX y4 z0 z1 z2 c0 c1 c2
        go_wp2
        go_roundw
        case rel => exact ⟨k + 1, n + 1, by omega, by go_num, by omega, HM2.out, by rw [HST.out]; exact HXB2.out, hXg2, HB2.out⟩
        case measure => simp [intOf]; omega
    · have hk2 : k = ls.length := by omega
      subst hk2
      rw [List.take_length] at HBr hpl
      have HIO : Hid (∀ w', MapIs w' m n (fenceM ls ls.length) → Calls _ _ _ w' _) := fun w' h => linesInOrder_any w' m n (fenceM ls ls.length) (safe.size / 64) HCN.out h
      rw [fence_order HOK.out] at HIO
      have HWS := HS.out.size
      have HTX : Hid (∀ w', Bytes w' w3.heap.size (fenceB safe.data.toList ls) → (convert 22 9 (.slice (some ⟨w3.heap.size, 0, none⟩) safe.size cp)).run Try.prog w' = .ok (.string (fenceS safe ls)) w') := fun w' h => by
        have := h.text cp
        rw [hpl] at this
        exact this
      generalize fenceM ls ls.length = f at HMr HIO
      generalize fenceB safe.data.toList ls = L at HBr HTX hpl
      have HMX : Hid (MapIs wr m n f) := HMr.out
      have HBX : Hid (Below W.heap.size W wr) := HB.out
      have HXB : Hid (Bytes wr w3.heap.size L) := HBr.out
      have hXg := hgr
      clear HMr HBr HB
      generalize wr = X at *
      go_wp2
      have HBd : Hid (Below W.heap.size W X.drew) := HBX.out.drew
      have HStep : Hid (∀ w5, Below X.drew.heap.size X.drew w5 → Below W.heap.size W w5 ∧ MapIs w5 m n f ∧ Bytes w5 w3.heap.size L) := fun w5 h =>
        ⟨HBd.out.trans (h.mono HBd.out.size), HMX.out.below (show Below X.heap.size X w5 from ⟨h.os, h.tape, h.output, h.size, h.block⟩), HXB.out.below (show Below X.heap.size X w5 from ⟨h.os, h.tape, h.output, h.size, h.block⟩) hXg⟩
      have HCS : Hid (∀ w', Below X.drew.heap.size X.drew w' → w'.cell? ⟨w.heap.size, 0, none⟩ = some (.string safe) ∧ w'.cell? ⟨w.heap.size, 1, none⟩ = some (.slice a ls.length cap) ∧ (convert 22 9 (.slice (some ⟨w3.heap.size, 0, none⟩) safe.size cp)).run Try.prog w' = .ok (.string (fenceS safe ls)) w') := fun w' h =>
        ⟨HS.out.arg0 w' (HStep.out w' h).1, HS.out.arg1 w' (HStep.out w' h).1, HTX.out w' (HStep.out w' h).2.2⟩
      have HCT : Hid (∀ w', Below X.drew.heap.size X.drew w' → ∀ S V : Value, ((w'.setCell ⟨w.heap.size + 1, 0, none⟩ S).setCell ⟨w.heap.size + 1, 1, none⟩ V).cell? ⟨w.heap.size, 0, none⟩ = some (.string safe) ∧ ((w'.setCell ⟨w.heap.size + 1, 0, none⟩ S).setCell ⟨w.heap.size + 1, 1, none⟩ V).cell? ⟨w.heap.size, 1, none⟩ = some (.slice a ls.length cap) ∧ (convert 22 9 (.slice (some ⟨w3.heap.size, 0, none⟩) safe.size cp)).run Try.prog ((w'.setCell ⟨w.heap.size + 1, 0, none⟩ S).setCell ⟨w.heap.size + 1, 1, none⟩ V) = .ok (.string (fenceS safe ls)) ((w'.setCell ⟨w.heap.size + 1, 0, none⟩ S).setCell ⟨w.heap.size + 1, 1, none⟩ V)) := fun w' h S V =>
        ⟨(HS.out.args2 (HStep.out w' h).1 S V).1, (HS.out.args2 (HStep.out w' h).1 S V).2, HTX.out _ (bytes_set2 (HStep.out w' h).2.2 (by omega) S V)⟩
      generalize hst : fenceS safe ls = st at HCS HCT
      have HQ : Hid (fenceS safe ls = st) := hst
      clear hst
      go_region_held3 (fun w' => w'.cell? ⟨w.heap.size, 0, none⟩ = some (.string safe) ∧ w'.cell? ⟨w.heap.size, 1, none⟩ = some (.slice a ls.length cap) ∧ (convert 22 9 (.slice (some ⟨w3.heap.size, 0, none⟩) safe.size cp)).run Try.prog w' = .ok (.string st) w')
        (first | exact HCS.out _ (Below.refl _ _) | exact HCS.out _ hb5 | exact HCS.out _ h56 | exact HCT.out _ h56 _ _)
        (first | (go_at_call 41; refine (HLC.out X.drew).mono ?_; rintro e w5 ⟨rfl, hb5⟩) | (go_at_call 40; refine (HIO.out w5 (HStep.out w5 hb5).2.1).mono ?_; rintro e w6 ⟨u, rfl, hown, hb6⟩; obtain ⟨aa, cp2, rfl⟩ := row_shape hown; have h56 : Below X.drew.heap.size X.drew w6 := hb5.trans (hb6.mono hb5.size); have h6 := (HStep.out w6 h56).1; have t0 := HS.out.res0 w6 h6; have t1 := HS.out.res1 w6 h6; have y0 := HS.out.fro0 w6 h6; have y1 := HS.out.fro1 w6 h6))
      all_goals
        have HRK : Hid (_) := row_kept (w := w) (by have := (HStep.out w5 hb5).1.size; omega) hown
        have HE : Hid (Ended w w6) := HS.out.ended h6
        have q0 := HE.out.at0; have q1 := HE.out.at1
        clear hown hb5 hb6 h56 h6
        go_wp2
        refine bodyPost_ret (v := .agg #[.string st, .slice aa (fenceL ls).length cp2]) (by simp [results, Try.results20, go_sem, q0, q1]) rfl ?_
        exact ⟨_, by rw [HQ.out], HRK.out _ _, HE.out.below _ _⟩
end Go.Proofs.Ytgpmpijaggnocaa.dev
