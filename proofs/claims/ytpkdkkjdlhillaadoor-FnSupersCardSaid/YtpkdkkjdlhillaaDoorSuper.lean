/-
  The line that says what a config is, by the program; nothing that was there is written.
-/
import Derived.Test.YtpkdkkjdlhillaaDoorRecord
import Derived.Test.YtpkdkkjdlhillaaDoorConf
import Derived.Laws.Bits64b
import Derived.Deep.Cut
import Derived.Deep.CutRange
import Derived.Deep.DeepCutAuto
namespace Go.Proofs.YtpkdkkjdlhillaaDoor.crc
open Go.RowKit
open wmath wb num kinds

/-- The bits of the references among the first k fields, as a number. -/
def maskN (s : ByteArray) : Nat → Nat
  | 0 => 0
  | k + 1 => if h : k < s.size then (if (s[k].toNat : Int) = 114 then maskN s k + 2 ^ k else maskN s k) else maskN s k
theorem maskN_lt (s : ByteArray) (k : Nat) : maskN s k < 2 ^ k := by
  induction k with
  | zero => simp [maskN]
  | succ k ih =>
    rw [maskN, Nat.pow_succ]
    split
    · split <;> omega
    · omega
theorem or_pow {m k : Nat} (h : m < 2 ^ k) : m ||| 2 ^ k = m + 2 ^ k := by
  have := Nat.two_pow_add_eq_or_of_lt (i := k) (b := m) h 1
  rw [Nat.mul_one] at this
  rw [Nat.or_comm, ← this, Nat.add_comm]
theorem pow_23 {k : Nat} (h : k < 23) : (2 : Nat) ^ k < 8388608 := by
  have := Nat.pow_lt_pow_right (a := 2) (by decide) h
  simpa using this
theorem maskK_nat (s : ByteArray) : ∀ k : Nat, k ≤ 23 → maskK s k = (maskN s k : Int) := by
  intro k
  induction k with
  | zero => intro _; rfl
  | succ k ih =>
    intro hk
    have h2 := pow_23 (show k < 23 by omega)
    have h1 := maskN_lt s k
    rw [maskK, maskN]
    split
    · split
      · rw [ih (by omega)]
        have e0 : ((2 : Int) ^ k) = ((2 ^ k : Nat) : Int) := by rw [Int.natCast_pow]; rfl
        have e : IntKind.u64.wrap (2 ^ k) = ((2 ^ k : Nat) : Int) := by rw [e0, IntKind.wrap_u64]; omega
        rw [e, bits_or_u64_nat _ _ (by omega) (by omega), or_pow h1]
      · exact ih (by omega)
    · exact ih (by omega)
theorem or_i64 (a b : Nat) (ha : a < 4611686018427387904) (hb : b < 4611686018427387904) : bits .or .i64 (a : Int) (b : Int) = ((a ||| b : Nat) : Int) := by
  have hx : a ||| b < 2 ^ 62 := Nat.or_lt_two_pow (by omega) (by omega)
  have h1 : (BitVec.ofInt 64 (a : Int)).toNat = a := by
    rw [BitVec.ofInt_natCast, BitVec.toNat_ofNat]; exact Nat.mod_eq_of_lt (by omega)
  have h2 : (BitVec.ofInt 64 (b : Int)).toNat = b := by
    rw [BitVec.ofInt_natCast, BitVec.toNat_ofNat]; exact Nat.mod_eq_of_lt (by omega)
  show IntKind.i64.wrap ((BitVec.ofInt 64 (a : Int) ||| BitVec.ofInt 64 (b : Int)).toNat : Int) = _
  rw [BitVec.toNat_or, h1, h2, IntKind.wrap_i64]
  omega
/-- A type's four bytes. -/
def typeStr (s : ByteArray) : ByteArray := strOfNums [(s.size : Int) % 256, (maskN s s.size : Int) / 65536 % 256, (maskN s s.size : Int) / 256 % 256, (maskN s s.size : Int) % 256]
theorem typeStr_size (s : ByteArray) : (typeStr s).size = 4 := rfl
def headStr (n1 n2 n3 : Int) : ByteArray := (⟨#[78, 86, 71, 49]⟩ : ByteArray) ++ shortStr n1 ++ shortStr n2 ++ shortStr n3
theorem headStr_size (n1 n2 n3 : Int) : (headStr n1 n2 n3).size = 10 := by
  unfold headStr
  rw [ByteArray.size_append, ByteArray.size_append, ByteArray.size_append, shortStr_size, shortStr_size, shortStr_size]
  rfl
/-- What stands ahead of the first k types' end. -/
def upTo (n1 n2 n3 : Int) (xs : List ByteArray) : Nat → ByteArray
  | 0 => headStr n1 n2 n3 ++ byteStr (xs.length : Int)
  | k + 1 => if h : k < xs.length then upTo n1 n2 n3 xs k ++ typeStr xs[k] else upTo n1 n2 n3 xs k
theorem upTo_size (n1 n2 n3 : Int) (xs : List ByteArray) : ∀ k, k ≤ xs.length → (upTo n1 n2 n3 xs k).size = 11 + 4 * k := by
  intro k
  induction k with
  | zero => intro _; show (headStr n1 n2 n3 ++ byteStr _).size = 11; rw [ByteArray.size_append, headStr_size, byteStr_size]
  | succ k ih =>
    intro hk
    rw [upTo, dif_pos (by omega), ByteArray.size_append, ih (by omega), typeStr_size]
    omega
def superStr (n1 n2 n3 : Int) (xs : List ByteArray) : ByteArray := if configOk n1 n2 n3 xs = true then sealedStr (upTo n1 n2 n3 xs xs.length) else ⟨#[]⟩
theorem conf_in {n1 n2 n3 : Int} {xs : List ByteArray} (h : configOk n1 n2 n3 xs = true) : (8 ≤ n1 ∧ n1 ≤ 128) ∧ (1 ≤ n2 ∧ n2 ≤ 32 ∧ n2 ≤ n1 - 5) ∧ (2 ≤ n3 ∧ n3 ≤ 400) ∧ xs.length ≤ 12 ∧ ∀ i (hi : i < xs.length), isType xs[i] = true := by
  unfold configOk typesOk at h
  simp only [Bool.and_eq_true, decide_eq_true_eq, List.all_eq_true] at h
  obtain ⟨⟨⟨h1, h2⟩, h3⟩, ⟨_, h4⟩, h5⟩ := h
  exact ⟨h1, h2, h3, h4, fun i hi => h5 _ (List.getElem_mem hi)⟩
theorem conv3 (w : World) (T : TypeId) (x0 x1 x2 x3 x4 x5 x6 x7 : Int) :
    (convert 22 9 (.slice (some ⟨w.heap.size, 0, none⟩) 3 8)).run Tryd.prog (w.alloc (.cells #[.int .u8 x0, .int .u8 x1, .int .u8 x2, .int .u8 x3, .int .u8 x4, .int .u8 x5, .int .u8 x6, .int .u8 x7] T)) = .ok (.string (strOfNums [x0, x1, x2])) (w.alloc (.cells #[.int .u8 x0, .int .u8 x1, .int .u8 x2, .int .u8 x3, .int .u8 x4, .int .u8 x5, .int .u8 x6, .int .u8 x7] T)) := by
  simpa using wb.conv_at w T [x0, x1, x2, x3, x4, x5, x6, x7] 3 8 (by simp)
def threeStr (n : Int) : ByteArray := strOfNums [n / 65536 % 256, n / 256 % 256, n % 256]
set_option maxHeartbeats 1000000 in
theorem high3 (n : Int) (w : World) (_h : 0 ≤ n) :
    Calls Tryd.prog 28 #[.int .u64 n, .int .i64 3] w fun e w' => e = .returned (.string (threeStr n)) ∧ Below w.heap.size w w' := by
  have hcv := conv3
  go_enter Tryd.func28, Tryd.ntmps28
  go_wp2
  go_rounds 4
  go_wp2
  go_ret
  exact ⟨rfl, by go_grown⟩
theorem type_two (s : ByteArray) : byteStr (s.size : Int) ++ threeStr (maskN s s.size : Int) = typeStr s := rfl
set_option maxHeartbeats 4000000 in
theorem impl_super (w : World) (n1 n2 n3 : Int) (a : Option Addr) (cap : Nat) (xs : List ByteArray) (hn : xs.length ≤ 1048576) (hl : Strs w a xs) (hz : ∀ i (hi : i < xs.length), xs[i].size ≤ 1048576) (ht : TabAt w) (h0 : 0 < w.heap.size) :
    Calls Tryd.prog 8 #[.agg #[.int .i64 n1, .int .i64 n2, .int .i64 n3, .slice a xs.length cap]] w fun x w' => x = .returned (.string (superStr n1 n2 n3 xs)) ∧ Below w.heap.size w w' := by
  obtain ⟨W, hW⟩ : ∃ W, W = w.alloc (.cells #[.int .i64 n1, .int .i64 n2, .int .i64 n3, .slice a xs.length cap] 26) := ⟨_, rfl⟩
  have hb0 : Below w.heap.size w W := by rw [hW]; exact (Below.refl _ _).alloc (Nat.le_refl _) _
  have hsz : w.heap.size < W.heap.size := by rw [hW]; simp
  have HCS : Hid (∀ w', Below W.heap.size W w' → w'.cell? ⟨w.heap.size, 0, none⟩ = some (.int .i64 n1) ∧ w'.cell? ⟨w.heap.size, 1, none⟩ = some (.int .i64 n2) ∧ w'.cell? ⟨w.heap.size, 2, none⟩ = some (.int .i64 n3) ∧ w'.cell? ⟨w.heap.size, 3, none⟩ = some (.slice a xs.length cap)) := fun w' hb =>
    ⟨by rw [hb.cell (p := ⟨w.heap.size, 0, none⟩) hsz, hW, World.cell?_alloc_new]; rfl, by rw [hb.cell (p := ⟨w.heap.size, 1, none⟩) hsz, hW, World.cell?_alloc_new]; rfl, by rw [hb.cell (p := ⟨w.heap.size, 2, none⟩) hsz, hW, World.cell?_alloc_new]; rfl, by rw [hb.cell (p := ⟨w.heap.size, 3, none⟩) hsz, hW, World.cell?_alloc_new]; rfl⟩
  have HW : Hid (W = w.alloc (.cells #[.int .i64 n1, .int .i64 n2, .int .i64 n3, .slice a xs.length cap] 26)) := hW
  have HB0 : Hid (Below w.heap.size w W) := hb0
  have HST : Hid (∀ w', Below W.heap.size W w' → Strs w' a xs) := fun w' hb => (hl.below hb0).below hb
  have HT : Hid (∀ w', Below W.heap.size W w' → TabAt w' ∧ 0 < w'.heap.size) := fun w' hb => ⟨(ht.below hb0 h0).below hb (Nat.lt_of_lt_of_le h0 hb0.size), Nat.lt_of_lt_of_le h0 (Nat.le_trans hb0.size hb.size)⟩
  have HO : Hid (Calls _ _ _ _ _) := impl_conf W n1 n2 n3 a cap xs hn (hl.below hb0) hz
  have HRS : Hid (superStr n1 n2 n3 xs = if configOk n1 n2 n3 xs = true then sealedStr (upTo n1 n2 n3 xs xs.length) else ⟨#[]⟩) := rfl
  generalize superStr n1 n2 n3 xs = res at HRS ⊢
  obtain ⟨m0, m1, m2, m3⟩ := HCS.out W (Below.refl _ _)
  clear hW hb0 ht hl hz
  cases hr : configOk n1 n2 n3 xs with
  | false =>
    rw [hr] at HO HRS
    have HR : Hid (res = ⟨#[]⟩) := HRS.out
    clear hr
    go_enter Tryd.func8, Tryd.ntmps8
    go_wp2_with (rw [← HW.out])
    refine HO.out.mono ?_
    rintro x w1 ⟨rfl, hb1⟩
    have HB1 : Hid (Below w.heap.size w w1) := HB0.out.trans (hb1.mono HB0.out.size)
    clear hb1
    go_wp2
    go_ret
    exact ⟨by rw [HR.out]; rfl, HB1.out⟩
  | true =>
    obtain ⟨⟨a1, a2⟩, ⟨b1, b2, _⟩, ⟨c1, c2⟩, hx12, hty⟩ := conf_in hr
    have HTY : Hid (∀ i (hi : i < xs.length), isType xs[i] = true) := hty
    rw [hr] at HO HRS
    have hbs := upTo_size n1 n2 n3 xs
    have HSE : Hid (∀ w, TabAt w → 0 < w.heap.size → Calls _ _ _ w _) := fun w q1 q2 => impl_sealed (upTo n1 n2 n3 xs xs.length) w (by rw [hbs _ (Nat.le_refl _)]; omega) q1 q2
    have HR : Hid (res = sealedStr (upTo n1 n2 n3 xs xs.length)) := HRS.out
    have H1 : Hid (∀ w, Calls _ _ _ w _) := fun w => impl_short_in n1 w (by omega) (by omega)
    have H2 : Hid (∀ w, Calls _ _ _ w _) := fun w => impl_short_in n2 w (by omega) (by omega)
    have H3 : Hid (∀ w, Calls _ _ _ w _) := fun w => impl_short_in n3 w (by omega) (by omega)
    have H4 : Hid (∀ w, Calls _ _ _ w _) := fun w => high1 (xs.length : Int) w (by omega)
    have HH : Hid (headStr n1 n2 n3 = (⟨#[78, 86, 71, 49]⟩ : ByteArray) ++ shortStr n1 ++ shortStr n2 ++ shortStr n3) := rfl
    have HU0 : Hid (upTo n1 n2 n3 xs 0 = headStr n1 n2 n3 ++ byteStr (xs.length : Int)) := rfl
    have z1 := shortStr_size n1
    have z2 := shortStr_size n2
    have z3 := shortStr_size n3
    have zh := headStr_size n1 n2 n3
    have zb := byteStr_size (xs.length : Int)
    clear hr hty
    go_enter Tryd.func8, Tryd.ntmps8
    go_wp2_with (rw [← HW.out])
    refine HO.out.mono ?_
    rintro x w1 ⟨rfl, hb1⟩
    have HH1 : Hid (Below W.heap.size W w1) := hb1
    have h1 : Below W.heap.size W w1.drew := hb1.drew
    clear hb1 m0 m1 m2 m3
    go_upto_region 3 with fail
    go_cut [3] (fun s wx => s = .string (headStr n1 n2 n3) ∧ Below W.heap.size W wx)
    case first =>
      generalize shortStr n1 = s1 at H1 z1 HH
      generalize shortStr n2 = s2 at H2 z2 HH
      generalize shortStr n3 = s3 at H3 z3 HH
      go_region_held3 (fun w' => w'.cell? ⟨w.heap.size, 0, none⟩ = some (.int .i64 n1) ∧ w'.cell? ⟨w.heap.size, 1, none⟩ = some (.int .i64 n2) ∧ w'.cell? ⟨w.heap.size, 2, none⟩ = some (.int .i64 n3) ∧ w'.cell? ⟨w.heap.size, 3, none⟩ = some (.slice a xs.length cap))
        (first | exact HCS.out _ h1 | exact HCS.out _ h2 | exact HCS.out _ h3 | exact HCS.out _ h4)
        (first | (go_at_call 27; have hq := h3; clear hq; refine (H3.out _).mono ?_; rintro x w4 ⟨rfl, hb4⟩; have h4 : Below W.heap.size W w4 := h3.trans (hb4.mono h3.size); clear hb4) | (go_at_call 27; have hq := h2; clear hq; refine (H2.out _).mono ?_; rintro x w3 ⟨rfl, hb3⟩; have h3 : Below W.heap.size W w3 := h2.trans (hb3.mono h2.size); clear hb3) | (go_at_call 27; refine (H1.out _).mono ?_; rintro x w2 ⟨rfl, hb2⟩; have h2 : Below W.heap.size W w2 := h1.trans (hb2.mono h1.size); clear hb2))
      all_goals
        go_wp2_with fail
        go_meet
        exact ⟨by rw [HH.out], h4⟩
    case rest =>
      obtain ⟨rfl, hc⟩ := hcut
      have HC : Hid (Below W.heap.size W wc) := hc
      clear hc h1
      obtain ⟨m0, m1, m2, m3⟩ := HCS.out wc HC.out
      generalize headStr n1 n2 n3 = hd at HU0 zh ⊢
      generalize byteStr (xs.length : Int) = bx at HU0 H4 zb
      have hw1 : IntKind.u64.wrap (xs.length : Int) = (xs.length : Int) := by rw [IntKind.wrap_u64]; omega
      go_wp2_with fail
      refine (H4.out _).mono ?_
      rintro x w5 ⟨rfl, hb5⟩
      have HB5 : Hid (Below W.heap.size W w5) := HC.out.trans (hb5.mono HC.out.size)
      clear hb5 m0 m1 m2 m3
      obtain ⟨m0, m1, m2, m3⟩ := HCS.out w5 HB5.out
      go_wp2
      clear m0 m1 m2 m3
      go_loopw [3, 33] (fun s i wr => ∃ k : Nat, k ≤ xs.length ∧ i = .int .i64 (k : Int) ∧ s = .string (upTo n1 n2 n3 xs k) ∧ Below W.heap.size W wr) (fun _ i _ => xs.length - (intOf i).toNat)
      case atStart => exact ⟨0, Nat.zero_le _, rfl, by rw [HU0.out], HB5.out⟩
      case round =>
        obtain ⟨k, hk, rfl, rfl, hbr⟩ := hrel
        have HBR : Hid (Below W.heap.size W wr) := hbr
        clear hbr
        by_cases hlt : (k : Int) < (xs.length : Int)
        · have hkl : k < xs.length := by omega
          obtain ⟨b, off, rfl, c0⟩ := HST.out wr HBR.out k hkl
          have hit := HTY.out k hkl
          have hs23 := isType_size hit
          have HUS : Hid (upTo n1 n2 n3 xs (k + 1) = upTo n1 n2 n3 xs k ++ (byteStr (xs[k].size : Int) ++ threeStr (maskN xs[k] xs[k].size : Int))) := by
            show upTo n1 n2 n3 xs (k + 1) = _
            rw [type_two, upTo, dif_pos hkl]
          have HBT : Hid (∀ w, Calls _ _ _ w _) := fun w => bits_any xs[k] w hs23.1 hs23.2
          rw [maskK_nat xs[k] xs[k].size hs23.2] at HBT
          have H5 : Hid (∀ w, Calls _ _ _ w _) := fun w => high1 (xs[k].size : Int) w (by omega)
          have H6 : Hid (∀ w, Calls _ _ _ w _) := fun w => high3 (maskN xs[k] xs[k].size : Int) w (by omega)
          have zs := byteStr_size (xs[k].size : Int)
          have zt : (threeStr (maskN xs[k] xs[k].size : Int)).size = 3 := rfl
          have zu := hbs k hk
          generalize byteStr (xs[k].size : Int) = p1 at HUS H5 zs
          generalize threeStr (maskN xs[k] xs[k].size : Int) = p2 at HUS H6 zt
          generalize upTo n1 n2 n3 xs k = tx at HUS zu ⊢
          generalize isType xs[k] = ity at HBT hit
          generalize (maskN xs[k] xs[k].size : Int) = mk at HBT H6
          generalize xs[k] = kd at c0 hs23 HBT H5
          have hw2 : IntKind.u64.wrap (kd.size : Int) = (kd.size : Int) := by rw [IntKind.wrap_u64]; omega
          go_wp2_with fail
          refine (HBT.out _).mono ?_
          rintro x w6 ⟨rfl, rfl⟩
          go_wp2_with fail
          refine (H5.out _).mono ?_
          rintro x w7 ⟨rfl, hb7⟩
          have HB7 : Hid (Below W.heap.size W w7) := HBR.out.trans (hb7.mono HBR.out.size)
          clear hb7 c0
          go_wp2_with fail
          refine (H6.out _).mono ?_
          rintro x w8 ⟨rfl, hb8⟩
          have HB8 : Hid (Below W.heap.size W w8) := HB7.out.trans (hb8.mono HB7.out.size)
          clear hb8
          go_wp2
          go_roundw
          case rel => exact ⟨k + 1, by omega, by go_num, by rw [HUS.out], HB8.out⟩
          case measure => simp [intOf]; omega
        · obtain rfl : k = xs.length := by omega
          generalize upTo n1 n2 n3 xs xs.length = tx at HSE HR
          go_wp2_with fail
          refine (HSE.out _ (HT.out _ HBR.out).1 (HT.out _ HBR.out).2).mono ?_
          rintro x w6 ⟨rfl, hb6⟩
          have HB6 : Hid (Below w.heap.size w w6) := HB0.out.trans ((HBR.out.trans (hb6.mono HBR.out.size)).mono HB0.out.size)
          clear hb6
          go_wp2
          go_ret
          exact ⟨by rw [HR.out]; rfl, HB6.out⟩
end Go.Proofs.YtpkdkkjdlhillaaDoor.crc
