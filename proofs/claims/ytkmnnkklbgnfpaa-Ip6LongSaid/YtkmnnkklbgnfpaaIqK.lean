/-
  The contracts of ip6.readHeader and ip6.Read, of any bytes.
-/
import Derived.Test.YtkmnnkklbgnfpaaIqJ
namespace Go.Proofs.Ytkmnnkklbgnfpaa
open Go.RowKit
set_option linter.unusedVariables false
attribute [local go_sem ↓] bld_iq ld_iq st_iq ld_addr st_addr
attribute [local go_sem] ldr_iq str_iq ldr_addr str_addr

def hdQ (s : List UInt8) : Ip := ⟨(num (s.take 2) / 16 % 256 : Nat), (num (s.take 4) % 1048576 : Nat), by8 s 6, by8 s 7, true, (s.drop 8).take 16, true, (s.drop 24).take 16, false, bd6 s⟩
def hdV (s : List UInt8) : Ip × Int := if hdE6 s = 0 then (hdQ s, 0) else (zeroI, hdE6 s)
theorem ex_num (b0 : Nat) (l : List UInt8) (k : Nat) (bad : Bool) (wd m : Nat) (h4 : wd ≤ 4) (hm : wd ≤ m) (hl : l.length ≤ 1000000) (hk : k ≤ 1000) (hP : bad = true ∨ l.length < m) :
    ∃ (n : Nat) (l' : List UInt8) (k' : Nat) (bad' : Bool), Hid (∀ W, RdAt W b0 l k bad → Calls Try.prog 30 #[.pointer (some ⟨b0, 0, none⟩), .int .i64 wd] W fun x w' => x = .returned (.int .u64 n) ∧ RdAt w' b0 l' k' bad' ∧ W.grownBy w' (some b0)) ∧ n < 256 ^ wd ∧ l'.length ≤ l.length ∧ k' ≤ k + wd ∧ (bad' = true ∨ l'.length < m - wd) := by
  refine ⟨num (takeV l bad wd), leftV l bad wd, pastV l bad wd k, badV l bad wd, Lib.hid fun W h => numq_any b0 l k bad wd (by omega) hl (by omega) W h, num_takeV l bad wd h4, leftV_le _ _ _, pastV_le _ _ _ _, ?_⟩
  cases bad with
  | true => left; exact (rd_dead (l := l) (n := (wd : Int)) (k := k)).2.2.2
  | false =>
    by_cases h : wd ≤ l.length
    · right
      rw [(rd_good (k := k) h).2.1, List.length_drop]
      rcases hP with h1 | h1
      · cases h1
      · omega
    · left; exact (rd_short (l := l) (n := wd) (k := k) (by omega)).2.2.2
theorem ex_adr (b0 : Nat) (l : List UInt8) (k : Nat) (bad : Bool) (m : Nat) (hm : 16 ≤ m) (hl : l.length ≤ 1000000) (hk : k ≤ 1000) (hP : bad = true ∨ l.length < m) :
    ∃ (v : Bool) (x l' : List UInt8) (k' : Nat) (bad' : Bool), Hid (∀ W, RdAt W b0 l k bad → Calls Try.prog 35 #[.pointer (some ⟨b0, 0, none⟩)] W fun e w' => e = .returned (.agg (addrC v x).toArray) ∧ RdAt w' b0 l' k' bad' ∧ W.grownBy w' (some b0)) ∧ x.length = 16 ∧ l'.length ≤ l.length ∧ k' ≤ k + 16 ∧ (bad' = true ∨ l'.length < m - 16) := by
  refine ⟨adV (takeV l bad 16), adL (takeV l bad 16), leftV l bad 16, pastV l bad 16 k, badV l bad 16, Lib.hid fun W h => takeAddr_any b0 l k bad hl (by omega) W h, adL_length _, leftV_le _ _ _, pastV_le l bad 16 k, ?_⟩
  cases bad with
  | true => left; exact (rd_dead (l := l) (n := 16) (k := k)).2.2.2
  | false =>
    by_cases h : 16 ≤ l.length
    · right
      have := (rd_good (l := l) (n := 16) (k := k) h).2.1
      rw [show leftV l false 16 = l.drop 16 from this, List.length_drop]
      rcases hP with h1 | h1
      · cases h1
      · omega
    · left; exact (rd_short (l := l) (n := 16) (k := k) (by omega)).2.2.2
theorem bits_hi (n : Nat) : bitsN n 20 8 = n / 1048576 % 256 := rfl
theorem bits_lo (n : Nat) : bitsN n 0 20 = n % 1048576 := by
  show n / 2 ^ 0 % 2 ^ 20 = _
  simp
theorem num_drop1 (s : List UInt8) (i : Nat) (h : i < s.length) : num ((s.drop i).take 1) = by8 s i := by
  have := by8_num (s.drop i) (by simp; omega)
  rw [this, by8_drop]; rfl
theorem num_top (s : List UInt8) (h : 4 ≤ s.length) : num (s.take 4) / 268435456 = by8 s 0 / 16 ∧ num (s.take 4) / 1048576 % 256 = num (s.take 2) / 16 % 256 := by
  match s, h with
  | a :: b :: c :: d :: r, _ =>
    have h1 := a.toNat_lt; have h2 := b.toNat_lt; have h3 := c.toNat_lt; have h4 := d.toNat_lt
    have e0 : by8 (a :: b :: c :: d :: r) 0 = a.toNat := rfl
    rw [e0]
    show num [a, b, c, d] / 268435456 = _ ∧ num [a, b, c, d] / 1048576 % 256 = num [a, b] / 16 % 256
    rw [num4, num_two]
    omega
theorem good_adr (b0 : Nat) (s : List UInt8) (i : Nat) (hi : i + 16 ≤ s.length) (hl : s.length ≤ 1000000) (W : World) (h : RdAt W b0 (s.drop i) i false) :
    Calls Try.prog 35 #[.pointer (some ⟨b0, 0, none⟩)] W fun e w' => e = .returned (.agg (addrC true ((s.drop i).take 16)).toArray) ∧ RdAt w' b0 (s.drop (i + 16)) (i + 16) false ∧ W.grownBy w' (some b0) := by
  have := takeAddr_any b0 (s.drop i) i false (by simp; omega) (by omega) W h
  obtain ⟨e1, e2, e3, e4⟩ := rd_good (l := s.drop i) (n := 16) (k := i) (by simp; omega)
  have hl16 : ((s.drop i).take 16).length = 16 := by simp; omega
  rw [show takeV (s.drop i) false 16 = (s.drop i).take 16 from e1, show leftV (s.drop i) false 16 = (s.drop i).drop 16 from e2, show pastV (s.drop i) false 16 i = i + 16 from e3, show badV (s.drop i) false 16 = false from e4, List.drop_drop] at this
  unfold adV adL at this
  rw [if_pos hl16, decide_eq_true hl16] at this
  exact this
theorem good_num (b0 : Nat) (s : List UInt8) (i wd : Nat) (h8 : wd ≤ 8) (hi : i + wd ≤ s.length) (hl : s.length ≤ 1000000) (W : World) (h : RdAt W b0 (s.drop i) i false) :
    Calls Try.prog 30 #[.pointer (some ⟨b0, 0, none⟩), .int .i64 wd] W fun e w' => e = .returned (.int .u64 (num ((s.drop i).take wd))) ∧ RdAt w' b0 (s.drop (i + wd)) (i + wd) false ∧ W.grownBy w' (some b0) := by
  have := numq_any b0 (s.drop i) i false wd h8 (by simp; omega) (by omega) W h
  obtain ⟨e1, e2, e3, e4⟩ := rd_good (l := s.drop i) (n := wd) (k := i) (by simp; omega)
  rw [e1, e2, e3, e4, List.drop_drop] at this
  exact this

theorem header6_any (s : List UInt8) (hs : s.length ≤ 100000) (w : World) :
    Calls Try.prog 22 #[.string (Str s)] w fun x w' => x = .returned (.tuple #[.agg (ipC (hdV s).1).toArray, .int .i64 (hdV s).2]) ∧ Below w.heap.size w w' := by
  by_cases h40 : s.length < 40
  · obtain ⟨n1, l1, k1, b1, H1, hn1, hl1, hk1, P1⟩ := ex_num (w.heap.size + 1) s 0 false 4 40 (by omega) (by omega) (by omega) (by omega) (Or.inr h40)
    obtain ⟨n2, l2, k2, b2, H2, hn2, hl2, hk2, P2⟩ := ex_num (w.heap.size + 1) l1 k1 b1 2 36 (by omega) (by omega) (by omega) (by omega) P1
    obtain ⟨n3, l3, k3, b3, H3, hn3, hl3, hk3, P3⟩ := ex_num (w.heap.size + 1) l2 k2 b2 1 34 (by omega) (by omega) (by omega) (by omega) P2
    obtain ⟨n4, l4, k4, b4, H4, hn4, hl4, hk4, P4⟩ := ex_num (w.heap.size + 1) l3 k3 b3 1 33 (by omega) (by omega) (by omega) (by omega) P3
    obtain ⟨v5, x5, l5, k5, b5, H5, hx5, hl5, hk5, P5⟩ := ex_adr (w.heap.size + 1) l4 k4 b4 32 (by omega) (by omega) (by omega) P4
    obtain ⟨v6, x6, l6, k6, b6, H6, hx6, hl6, hk6, P6⟩ := ex_adr (w.heap.size + 1) l5 k5 b5 16 (by omega) (by omega) (by omega) P5
    have hb : b6 = true := by
      rcases P6 with h | h
      · exact h
      · omega
    subst hb
    have q1 := bits_hi n1
    have q2 := bits_lo n1
    simp at hn1 hn2 hn3 hn4
    refine hdr_core w s l1 l2 l3 l4 l5 l6 (l6.drop n2) x5 x6 k1 k2 k3 k4 k5 k6 (k6 + n2) n1 n2 n3 n4 (bitsN n1 20 8) (bitsN n1 0 20) b1 b2 b3 b4 b5 true false v5 v6 H1 H2 (Lib.hid fun W => bits_any n1 (by omega) 20 8 W) (Lib.hid fun W => bits_any n1 (by omega) 0 20 W) H3 H4 H5 H6 (Lib.hid fun W h hn => take_good _ l6 k6 n2 hn (by omega) (by omega) W h) hn1 hn2 hn3 hn4 (by omega) (by omega) hx5 hx6 (by omega) _ ?_
    have hE : hdE6 s = 3 := by unfold hdE6; rw [if_pos h40]
    unfold hdV coreH; rw [if_neg (by omega), hE]; rfl
  · have h1 := num_top s (by omega)
    have hb7 := num_drop1 s 7 (by omega)
    have hb6 := num_drop1 s 6 (by omega)
    have hn1 := num_small (s.take 4) (by simp; omega)
    have hn2 := wd_lt s 4 (by omega)
    have c6 := by8_lt s 6
    have c7 := by8_lt s 7
    rw [show (s.take 4).length = 4 by simp; omega] at hn1
    simp only [show (256 : Nat) ^ 4 = 4294967296 from rfl] at hn1
    have hdd : ((s.drop 40).take (wd s 4)) = bd6 s := rfl
    have q1 := bits_hi (num (s.take 4))
    have q2 := bits_lo (num (s.take 4))
    refine hdr_core w s (s.drop 4) (s.drop 6) (s.drop 7) (s.drop 8) (s.drop 24) (s.drop 40) ((s.drop 40).drop (wd s 4)) ((s.drop 8).take 16) ((s.drop 24).take 16) 4 6 7 8 24 40 (40 + wd s 4) (num (s.take 4)) (wd s 4) (by8 s 6) (by8 s 7) (bitsN (num (s.take 4)) 20 8) (bitsN (num (s.take 4)) 0 20) false false false false false false false true true
      (Lib.hid fun W h => good_num _ s 0 4 (by omega) (by omega) (by omega) W h) (Lib.hid fun W h => good_num _ s 4 2 (by omega) (by omega) (by omega) W h)
      (Lib.hid fun W => bits_any _ (by omega) 20 8 W) (Lib.hid fun W => bits_any _ (by omega) 0 20 W)
      (Lib.hid fun W h => ?_) (Lib.hid fun W h => ?_)
      (Lib.hid fun W h => good_adr _ s 8 (by omega) (by omega) W h) (Lib.hid fun W h => good_adr _ s 24 (by omega) (by omega) W h)
      (Lib.hid fun W h hn => take_good _ (s.drop 40) 40 (wd s 4) hn (by simp; omega) (by omega) W h) hn1 hn2 c6 c7 (by omega) (by omega) (by simp; omega) (by simp; omega) (by simp; omega) _ ?_
    · have := good_num (w.heap.size + 1) s 6 1 (by omega) (by omega) (by omega) W h
      rw [hb6] at this
      exact this
    · have := good_num (w.heap.size + 1) s 7 1 (by omega) (by omega) (by omega) W h
      rw [hb7] at this
      exact this
    · unfold hdV coreH hdE6
      rw [if_neg (show ¬ (false = true) by simp), h1.1, q1, q2, h1.2, if_neg h40, List.length_drop, hdd]
      by_cases h2 : by8 s 0 / 16 = 6
      · rw [if_neg (show ¬ by8 s 0 / 16 ≠ 6 by omega)]
        by_cases h3 : s.length < wd s 4 + 40
        · rw [if_pos h3, if_neg (by omega), if_neg (by omega), if_pos (by omega)]
        · rw [if_neg h3, if_pos rfl, if_neg (by omega), if_neg (by omega)]; rfl
      · rw [if_pos h2, if_neg (by omega), if_pos h2]

/-- The result's block of Read, and the packet in block m. -/
def RX (w W : World) (m : Nat) (e : Ip) : Prop := ObjAt W w.heap.size (ipC zeroI).toArray 26 ∧ IqAt W m e ∧ w.heap.size < m ∧ Below w.heap.size w W ∧ e.ok
theorem RX.below {w W W' : World} {m : Nat} {e : Ip} (h : RX w W m e) (hb : Below W.heap.size W W') : RX w W' m e := ⟨h.1.below hb h.1.lt, h.2.1.below hb, h.2.2.1, bstep h.2.2.2.1 hb, h.2.2.2.2⟩
theorem RX.made {w W : World} (h1 : ObjAt W w.heap.size (ipC zeroI).toArray 26) (h2 : Below w.heap.size w W) (e : Ip) (ho : e.ok) : RX w (aggW (W.alloc (.cells #[.int .i64 0, .int .i64 0, .int .i64 0, .int .i64 0, .bool false, .int .u8 0, .int .u8 0, .int .u8 0, .int .u8 0, .int .u8 0, .int .u8 0, .int .u8 0, .int .u8 0, .int .u8 0, .int .u8 0, .int .u8 0, .int .u8 0, .int .u8 0, .int .u8 0, .int .u8 0, .int .u8 0, .bool false, .int .u8 0, .int .u8 0, .int .u8 0, .int .u8 0, .int .u8 0, .int .u8 0, .int .u8 0, .int .u8 0, .int .u8 0, .int .u8 0, .int .u8 0, .int .u8 0, .int .u8 0, .int .u8 0, .int .u8 0, .int .u8 0, .bool false, .string ⟨#[]⟩] 26)) W.heap.size (ipC e)) W.heap.size e := by
  have hl := h1.lt
  exact ⟨aggW_other (h1.alloc _) _ (by omega), aggW_obj (ObjAt.made W (ipC zeroI).toArray 26) (by rw [ipC_length ho, ipC_length zeroI_ok]) (ipC_one e), hl, aggW_below (h2.alloc (by omega) _) (by omega) _, ho⟩
theorem RX.again {w W : World} {m : Nat} {e : Ip} (h : RX w W m e) (f : Ip) (ho : f.ok) : RX w (aggW W m (ipC f)) m f := by
  obtain ⟨h1, h2, h3, h4, h5⟩ := h
  exact ⟨aggW_other h1 _ (by omega), aggW_obj h2 (by rw [ipC_length ho, ipC_length h5]) (ipC_one f), h3, aggW_below h4 (by omega) _, ho⟩
theorem RX.free {w W : World} {m : Nat} {e : Ip} (h : RX w W m e) : free? W w.heap.size 0 40 = true := obj_free h.1 (by simp [ipC_length zeroI_ok])
theorem RX.done {w W : World} {m : Nat} {e : Ip} (h : RX w W m e) (f : Ip) (ho : f.ok) : row? (aggW W w.heap.size (ipC f)) w.heap.size 0 40 = some (ipC f) ∧ Below w.heap.size w (aggW W w.heap.size (ipC f)) :=
  ⟨aggW_row h.free (ipC_length ho), aggW_below h.2.2.2.1 (Nat.le_refl _) _⟩
theorem hdQ_ok (s : List UInt8) (h : 40 ≤ s.length) : (hdQ s).ok := ⟨by show ((s.drop 8).take 16).length = 16; simp; omega, by show ((s.drop 24).take 16).length = 16; simp; omega⟩
theorem hdV_ok (s : List UInt8) : (hdV s).1.ok := by
  unfold hdV
  split
  · rename_i h; exact hdQ_ok s (hdE6_zero h).1
  · exact zeroI_ok
theorem opV_ok (e : Ip) (h : e.ok) : (opV e).1.ok := by
  unfold opV
  repeat' split
  · exact zeroI_ok
  · exact zeroI_ok
  · exact zeroI_ok
  · exact h
/-- What Read tells, of what the header and the options came to. -/
def finV (e : Ip) (c : Int) : Ip × Int := if c ≠ 0 then (zeroI, c) else if 1400 < e.bd.length then (zeroI, 6) else (e, 0)

set_option maxRecDepth 100000 in
set_option maxHeartbeats 4000000 in
theorem read_core (w : World) (s : List UInt8) (e f : Ip) (c d : Int) (ho : e.ok) (hof : f.ok) (hlf : f.bd.length ≤ 1000000)
    (H1 : Hid (∀ W, Calls Try.prog 22 #[.string (Str s)] W fun x w' => x = .returned (.tuple #[.agg (ipC e).toArray, .int .i64 c]) ∧ Below W.heap.size W w'))
    (H2 : Hid (c = 0 → e.ttl = 0 → ∀ W, Calls Try.prog 23 #[.agg (ipC e).toArray] W fun x w' => x = .returned (.tuple #[.agg (ipC f).toArray, .int .i64 d]) ∧ Below W.heap.size W w'))
    (h3 : ¬ (c = 0 ∧ e.ttl = 0) → f = e ∧ d = c) (R : Ip × Int) (hR : R = finV f d) :
    Calls Try.prog 12 #[.string (Str s)] w fun x w' => x = .returned (.tuple #[.agg (ipC R.1).toArray, .int .i64 R.2]) ∧ Below w.heap.size w w' := by
  have hbz := bld_zeroQ
  have hfok := fok_ip zeroI_ok
  have hfoke := fok_ip ho
  have hfokf := fok_ip hof
  have HOE := Lib.hid ho
  have HOF := Lib.hid hof
  have HRR := Lib.hid hR
  have hfm : ∀ W : World, free? (W.alloc (.cells #[.int .i64 0, .int .i64 0, .int .i64 0, .int .i64 0, .bool false, .int .u8 0, .int .u8 0, .int .u8 0, .int .u8 0, .int .u8 0, .int .u8 0, .int .u8 0, .int .u8 0, .int .u8 0, .int .u8 0, .int .u8 0, .int .u8 0, .int .u8 0, .int .u8 0, .int .u8 0, .int .u8 0, .bool false, .int .u8 0, .int .u8 0, .int .u8 0, .int .u8 0, .int .u8 0, .int .u8 0, .int .u8 0, .int .u8 0, .int .u8 0, .int .u8 0, .int .u8 0, .int .u8 0, .int .u8 0, .int .u8 0, .int .u8 0, .int .u8 0, .bool false, .string ⟨#[]⟩] 26)) W.heap.size 0 40 = true := fun W => free_made W _ _ 40 (by simp)
  have H0 : Hid (ObjAt (w.alloc (.cells #[.int .i64 0, .int .i64 0, .int .i64 0, .int .i64 0, .bool false, .int .u8 0, .int .u8 0, .int .u8 0, .int .u8 0, .int .u8 0, .int .u8 0, .int .u8 0, .int .u8 0, .int .u8 0, .int .u8 0, .int .u8 0, .int .u8 0, .int .u8 0, .int .u8 0, .int .u8 0, .int .u8 0, .bool false, .int .u8 0, .int .u8 0, .int .u8 0, .int .u8 0, .int .u8 0, .int .u8 0, .int .u8 0, .int .u8 0, .int .u8 0, .int .u8 0, .int .u8 0, .int .u8 0, .int .u8 0, .int .u8 0, .int .u8 0, .int .u8 0, .bool false, .string ⟨#[]⟩] 26)) w.heap.size (ipC zeroI).toArray 26 ∧ Below w.heap.size w (w.alloc (.cells #[.int .i64 0, .int .i64 0, .int .i64 0, .int .i64 0, .bool false, .int .u8 0, .int .u8 0, .int .u8 0, .int .u8 0, .int .u8 0, .int .u8 0, .int .u8 0, .int .u8 0, .int .u8 0, .int .u8 0, .int .u8 0, .int .u8 0, .int .u8 0, .int .u8 0, .int .u8 0, .int .u8 0, .bool false, .int .u8 0, .int .u8 0, .int .u8 0, .int .u8 0, .int .u8 0, .int .u8 0, .int .u8 0, .int .u8 0, .int .u8 0, .int .u8 0, .int .u8 0, .int .u8 0, .int .u8 0, .int .u8 0, .int .u8 0, .int .u8 0, .bool false, .string ⟨#[]⟩] 26))) := Lib.hid ⟨ObjAt.made w _ _, (Below.refl _ _).alloc (Nat.le_refl _) _⟩
  have hsz := Str_size f.bd
  have HE : Hid (∀ (W : World) (m : Nat), RX w W m e → W.cell? ⟨m, 2, none⟩ = some (.int .i64 e.ttl) ∧ row? W m 0 40 = some (ipC e) ∧ free? W m 0 40 = true) := Lib.hid fun W m h => ⟨h.2.1.ttl, h.2.1.row ho, h.2.1.free ho⟩
  have HF : Hid (∀ (W : World) (m : Nat), RX w W m f → W.cell? ⟨m, 39, none⟩ = some (.string (Str f.bd)) ∧ row? W m 0 40 = some (ipC f) ∧ free? W w.heap.size 0 40 = true) := Lib.hid fun W m h => ⟨h.2.1.bd hof, h.2.1.row hof, h.free⟩
  clear hR ho hof
  go_enter Try.func12, Try.ntmps12
  go_upto_region 1 with (fail)
  generalize w.alloc (.cells #[.int .i64 0, .int .i64 0, .int .i64 0, .int .i64 0, .bool false, .int .u8 0, .int .u8 0, .int .u8 0, .int .u8 0, .int .u8 0, .int .u8 0, .int .u8 0, .int .u8 0, .int .u8 0, .int .u8 0, .int .u8 0, .int .u8 0, .int .u8 0, .int .u8 0, .int .u8 0, .int .u8 0, .bool false, .int .u8 0, .int .u8 0, .int .u8 0, .int .u8 0, .int .u8 0, .int .u8 0, .int .u8 0, .int .u8 0, .int .u8 0, .int .u8 0, .int .u8 0, .int .u8 0, .int .u8 0, .int .u8 0, .int .u8 0, .int .u8 0, .bool false, .string ⟨#[]⟩] 26) = W at H0 ⊢
  go_upto_region 2 with (go_at_call 22; (with_reducible refine (H1.out _).mono ?_); rintro x w1 ⟨rfl, hb1⟩; have G1 := Lib.hid (RX.made (H0.out.1.below hb1 H0.out.1.lt) (bstep H0.out.2 hb1) e HOE.out); clear hb1)
  generalize aggW (w1.alloc (.cells #[.int .i64 0, .int .i64 0, .int .i64 0, .int .i64 0, .bool false, .int .u8 0, .int .u8 0, .int .u8 0, .int .u8 0, .int .u8 0, .int .u8 0, .int .u8 0, .int .u8 0, .int .u8 0, .int .u8 0, .int .u8 0, .int .u8 0, .int .u8 0, .int .u8 0, .int .u8 0, .int .u8 0, .bool false, .int .u8 0, .int .u8 0, .int .u8 0, .int .u8 0, .int .u8 0, .int .u8 0, .int .u8 0, .int .u8 0, .int .u8 0, .int .u8 0, .int .u8 0, .int .u8 0, .int .u8 0, .int .u8 0, .int .u8 0, .int .u8 0, .bool false, .string ⟨#[]⟩] 26)) w1.heap.size _ = W2 at G1 ⊢
  generalize w1.heap.size = m at G1 ⊢
  clear hfm H0 H1
  obtain ⟨c2, re, fe⟩ := HE.out _ _ G1.out
  by_cases hc : c = 0 ∧ e.ttl = 0
  · obtain ⟨hc0, ht0⟩ := hc
    have q1 : (c == 0) = true := by simpa using hc0
    have q2 : (e.ttl == 0) = true := by simpa using ht0
    have H2' := Lib.hid (H2.out hc0 ht0)
    clear hc0 ht0 h3 H2
    go_upto_region 4 with (go_at_call 23; (with_reducible refine (H2'.out _).mono ?_); rintro x w3 ⟨rfl, hb3⟩; have G3 := Lib.hid (G1.out.below hb3); clear hb3 c2 re fe; obtain ⟨c2, re, fe⟩ := HE.out _ _ G3.out)
    have G4 := Lib.hid (G3.out.again f HOF.out)
    generalize aggW w3 m (ipC f) = W4 at G4 ⊢
    clear c2 re fe
    obtain ⟨c39, rf, ff⟩ := HF.out _ _ G4.out
    by_cases hd : d = 0
    · have q3 : (d != 0) = false := by simpa using hd
      by_cases hl : 1400 < f.bd.length
      · have q4 : decide ((1400 : Int) < (f.bd.length : Int)) = true := by simp; omega
        have HR := Lib.hid (show R = (zeroI, 6) by rw [HRR.out]; unfold finV; rw [if_neg (by simp [hd]), if_pos hl])
        clear hd hl hlf
        go_upto_region 7 with (fail)
        repeat (first | go_values | go_skip | go_guarded | go_step | go_upon | go_in)
        obtain ⟨r1, r2⟩ := G4.out.done zeroI zeroI_ok
        exact bodyPost_ret (results_cell2 Try.results12 rfl (ld_some r1 (ldr_iq _ _ _))) rfl ⟨by rw [HR.out]; rfl, r2⟩
      · have q4 : decide ((1400 : Int) < (f.bd.length : Int)) = false := by simp; omega
        have HR := Lib.hid (show R = (f, 0) by rw [HRR.out]; unfold finV; rw [if_neg (by simp [hd]), if_neg hl])
        clear hd hl hlf
        go_upto_region 8 with (fail)
        repeat (first | go_values | go_skip | go_guarded | go_step | go_upon | go_in)
        obtain ⟨r1, r2⟩ := G4.out.done f HOF.out
        exact bodyPost_ret (results_cell2 Try.results12 rfl (ld_some r1 (ldr_iq _ _ _))) rfl ⟨by rw [HR.out]; rfl, r2⟩
    · have q3 : (d != 0) = true := by simpa using hd
      have HR := Lib.hid (show R = (zeroI, d) by rw [HRR.out]; unfold finV; rw [if_pos hd])
      clear hd hlf
      go_upto_region 5 with (fail)
      repeat (first | go_values | go_skip | go_guarded | go_step | go_upon | go_in)
      obtain ⟨r1, r2⟩ := G4.out.done zeroI zeroI_ok
      exact bodyPost_ret (results_cell2 Try.results12 rfl (ld_some r1 (ldr_iq _ _ _))) rfl ⟨by rw [HR.out]; rfl, r2⟩
  · obtain ⟨rfl, rfl⟩ := h3 hc
    clear H2
    by_cases hc0 : d = 0
    · have q1 : (d == 0) = true := by simpa using hc0
      have ht0 : ¬ f.ttl = 0 := fun h => hc ⟨hc0, h⟩
      have q2 : (f.ttl == 0) = false := by simpa using ht0
      clear hc hc0 ht0
      have G4 := G1
      obtain ⟨c39, rf, ff⟩ := HF.out _ _ G4.out
      go_upto_region 4 with (fail)
      by_cases hd : d = 0
      · have q3 : (d != 0) = false := by simpa using hd
        by_cases hl : 1400 < f.bd.length
        · have q4 : decide ((1400 : Int) < (f.bd.length : Int)) = true := by simp; omega
          have HR := Lib.hid (show R = (zeroI, 6) by rw [HRR.out]; unfold finV; rw [if_neg (by simp [hd]), if_pos hl])
          clear hd hl hlf
          go_upto_region 7 with (fail)
          repeat (first | go_values | go_skip | go_guarded | go_step | go_upon | go_in)
          obtain ⟨r1, r2⟩ := G4.out.done zeroI zeroI_ok
          exact bodyPost_ret (results_cell2 Try.results12 rfl (ld_some r1 (ldr_iq _ _ _))) rfl ⟨by rw [HR.out]; rfl, r2⟩
        · have q4 : decide ((1400 : Int) < (f.bd.length : Int)) = false := by simp; omega
          have HR := Lib.hid (show R = (f, 0) by rw [HRR.out]; unfold finV; rw [if_neg (by simp [hd]), if_neg hl])
          clear hd hl hlf
          go_upto_region 8 with (fail)
          repeat (first | go_values | go_skip | go_guarded | go_step | go_upon | go_in)
          obtain ⟨r1, r2⟩ := G4.out.done f HOF.out
          exact bodyPost_ret (results_cell2 Try.results12 rfl (ld_some r1 (ldr_iq _ _ _))) rfl ⟨by rw [HR.out]; rfl, r2⟩
      · have q3 : (d != 0) = true := by simpa using hd
        have HR := Lib.hid (show R = (zeroI, d) by rw [HRR.out]; unfold finV; rw [if_pos hd])
        clear hd hlf
        go_upto_region 5 with (fail)
        repeat (first | go_values | go_skip | go_guarded | go_step | go_upon | go_in)
        obtain ⟨r1, r2⟩ := G4.out.done zeroI zeroI_ok
        exact bodyPost_ret (results_cell2 Try.results12 rfl (ld_some r1 (ldr_iq _ _ _))) rfl ⟨by rw [HR.out]; rfl, r2⟩
    · have q1 : (d == 0) = false := by simpa using hc0
      clear hc hc0
      have G4 := G1
      obtain ⟨c39, rf, ff⟩ := HF.out _ _ G4.out
      go_upto_region 4 with (fail)
      by_cases hd : d = 0
      · have q3 : (d != 0) = false := by simpa using hd
        by_cases hl : 1400 < f.bd.length
        · have q4 : decide ((1400 : Int) < (f.bd.length : Int)) = true := by simp; omega
          have HR := Lib.hid (show R = (zeroI, 6) by rw [HRR.out]; unfold finV; rw [if_neg (by simp [hd]), if_pos hl])
          clear hd hl hlf
          go_upto_region 7 with (fail)
          repeat (first | go_values | go_skip | go_guarded | go_step | go_upon | go_in)
          obtain ⟨r1, r2⟩ := G4.out.done zeroI zeroI_ok
          exact bodyPost_ret (results_cell2 Try.results12 rfl (ld_some r1 (ldr_iq _ _ _))) rfl ⟨by rw [HR.out]; rfl, r2⟩
        · have q4 : decide ((1400 : Int) < (f.bd.length : Int)) = false := by simp; omega
          have HR := Lib.hid (show R = (f, 0) by rw [HRR.out]; unfold finV; rw [if_neg (by simp [hd]), if_neg hl])
          clear hd hl hlf
          go_upto_region 8 with (fail)
          repeat (first | go_values | go_skip | go_guarded | go_step | go_upon | go_in)
          obtain ⟨r1, r2⟩ := G4.out.done f HOF.out
          exact bodyPost_ret (results_cell2 Try.results12 rfl (ld_some r1 (ldr_iq _ _ _))) rfl ⟨by rw [HR.out]; rfl, r2⟩
      · have q3 : (d != 0) = true := by simpa using hd
        have HR := Lib.hid (show R = (zeroI, d) by rw [HRR.out]; unfold finV; rw [if_pos hd])
        clear hd hlf
        go_upto_region 5 with (fail)
        repeat (first | go_values | go_skip | go_guarded | go_step | go_upon | go_in)
        obtain ⟨r1, r2⟩ := G4.out.done zeroI zeroI_ok
        exact bodyPost_ret (results_cell2 Try.results12 rfl (ld_some r1 (ldr_iq _ _ _))) rfl ⟨by rw [HR.out]; rfl, r2⟩

theorem finV_read (s : List UInt8) : readV6 s = (if hdE6 s = 0 ∧ by8 s 6 = 0 then finV (opV (hdQ s)).1 (opV (hdQ s)).2 else finV (hdV s).1 (hdV s).2) := by
  by_cases hE : hdE6 s = 0
  · have hbl := (hdE6_zero hE).2.2.2
    have hh : hdV s = (hdQ s, 0) := by unfold hdV; rw [if_pos hE]
    by_cases h6 : by8 s 6 = 0
    · rw [if_pos ⟨hE, h6⟩]
      have hbd : (hdQ s).bd = bd6 s := rfl
      have ho : opE (hdQ s) = opt6 s := rfl
      have e6 : 8 * by8 (bd6 s) 1 + 8 = hb6 s := rfl
      unfold readV6
      rw [why6_opt hE h6]
      unfold opE6 opV finV
      rw [hbd, ho, e6]
      by_cases h1 : (bd6 s).length < 8 ∨ (bd6 s).length < hb6 s
      · rw [if_pos h1, if_pos h1]; rfl
      rw [if_neg h1, if_neg h1]
      by_cases h2 : (opt6 s).2 = 0
      · have h2' : ¬ (opt6 s).2 ≠ 0 := by simp [h2]
        rw [if_neg h2', if_neg h2']
        by_cases h3 : by8 (bd6 s) 0 = 0
        · rw [if_pos h3, if_pos h3]; rfl
        · rw [if_neg h3, if_neg h3]
          by_cases h4 : 1400 < (bd6 s).length - hb6 s
          · rw [if_pos h4, if_neg (by simp), if_neg (by simp), if_pos (by simpa using h4)]
          · rw [if_neg h4, if_pos rfl, if_neg (by simp), if_neg (by simpa using h4)]
            unfold iqOf hdQ
            rw [if_pos h6, if_pos h6, if_pos h6]
      · rw [if_pos h2, if_pos h2, if_neg h2, if_pos h2]
    · rw [if_neg (fun h => h6 h.2), hh]
      unfold readV6
      rw [why6_no hE h6]
      unfold finV
      rw [if_neg (show ¬ ((0 : Int) ≠ 0) by simp)]
      have hbd : (hdQ s).bd = bd6 s := rfl
      rw [hbd]
      by_cases h4 : 1400 < (bd6 s).length
      · rw [if_pos h4, if_neg (by simp), if_pos h4]
      · rw [if_neg h4, if_pos rfl, if_neg h4]
        unfold iqOf hdQ
        rw [if_neg h6, if_neg h6, if_neg h6]
  · rw [if_neg (fun h => hE h.1)]
    unfold readV6 hdV finV
    rw [why6_bad hE, if_neg hE, if_neg hE, if_pos hE]
theorem read6_any (s : List UInt8) (hs : s.length ≤ 100000) (w : World) :
    Calls Try.prog 12 #[.string (Str s)] w fun x w' => x = .returned (.tuple #[.agg (ipC (readV6 s).1).toArray, .int .i64 (readV6 s).2]) ∧ Below w.heap.size w w' := by
  have hR := finV_read s
  have hlh : (hdV s).1.bd.length ≤ 100000 := by
    unfold hdV; split
    · rename_i h
      have h1 := hdE6_zero h
      show (bd6 s).length ≤ 100000
      omega
    · show ([] : List UInt8).length ≤ 100000
      simp
  by_cases h : hdE6 s = 0 ∧ by8 s 6 = 0
  · rw [if_pos h] at hR
    have hh : hdV s = (hdQ s, 0) := by unfold hdV; rw [if_pos h.1]
    rw [hh] at hlh
    have hlo : (opV (hdQ s)).1.bd.length ≤ 1000000 := by
      unfold opV; repeat' split
      · show ([] : List UInt8).length ≤ 1000000; simp
      · show ([] : List UInt8).length ≤ 1000000; simp
      · show ([] : List UInt8).length ≤ 1000000; simp
      · simp at hlh ⊢; omega
    refine read_core w s (hdQ s) (opV (hdQ s)).1 0 (opV (hdQ s)).2 (hdQ_ok s (hdE6_zero h.1).1) (opV_ok _ (hdQ_ok s (hdE6_zero h.1).1)) hlo (Lib.hid fun W => ?_) (Lib.hid fun _ _ W => ropts6_any (hdQ s) (hdQ_ok s (hdE6_zero h.1).1) hlh W) (fun h' => absurd ⟨rfl, ?_⟩ h') _ hR
    · have := header6_any s hs W
      rw [hh] at this
      exact this
    · show ((by8 s 6 : Nat) : Int) = 0
      rw [h.2]; rfl
  · rw [if_neg h] at hR
    refine read_core w s (hdV s).1 (hdV s).1 (hdV s).2 (hdV s).2 (hdV_ok s) (hdV_ok s) (by omega) (Lib.hid fun W => header6_any s hs W) (Lib.hid fun h1 h2 => ?_) (fun _ => ⟨rfl, rfl⟩) _ hR
    exfalso
    apply h
    have hE : hdE6 s = 0 := by
      by_cases hE : hdE6 s = 0
      · exact hE
      · unfold hdV at h1; rw [if_neg hE] at h1; exact absurd h1 hE
    refine ⟨hE, ?_⟩
    unfold hdV at h2
    rw [if_pos hE] at h2
    have : ((by8 s 6 : Nat) : Int) = 0 := h2
    omega
end Go.Proofs.Ytkmnnkklbgnfpaa
