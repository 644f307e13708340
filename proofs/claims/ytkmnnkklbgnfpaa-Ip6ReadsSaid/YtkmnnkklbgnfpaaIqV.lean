/-
  The document's own reading of a packet of IPv6: packets with options, and any.
-/
import Derived.Test.YtkmnnkklbgnfpaaIqU
namespace Go.Proofs.Ytkmnnkklbgnfpaa
open Go.RowKit
set_option linter.unusedVariables false
attribute [local go_sem ↓] bld_iq ld_iq st_iq ld_addr st_addr
attribute [local go_sem] ldr_iq str_iq ldr_addr str_addr_at

theorem iqOf_opt (s : List UInt8) (h : by8 s 6 = 0) (ra rb : Nat) (ha : ra = num (s.take 2) / 16 % 256) (hb : rb = num (s.take 4) % 1048576) : iqOf s = ⟨ra, rb, by8 (bd6 s) 0, by8 s 7, true, (s.drop 8).take 16, true, (s.drop 24).take 16, (opt6 s).1, (bd6 s).drop (hb6 s)⟩ := by
  subst ha hb
  unfold iqOf; rw [if_pos h, if_pos h, if_pos h]
theorem QG.c {w W : World} {m : Nat} {e : Ip} (h : QG w W m e) : W.cell? ⟨m, 2, none⟩ = some (.int .i64 e.ttl) ∧ W.cell? ⟨m, 38, none⟩ = some (.bool e.al) ∧ W.cell? ⟨m, 39, none⟩ = some (.string (Str e.bd)) ∧ W.frozen? ⟨m, 2, none⟩ = false ∧ W.frozen? ⟨m, 38, none⟩ = false ∧ W.frozen? ⟨m, 39, none⟩ = false :=
  ⟨h.2.1.ttl, h.2.1.al h.2.2.2, h.2.1.bd h.2.2.2, h.2.1.frz 2, h.2.1.frz 38, h.2.1.frz 39⟩
theorem QG.three {w W : World} {m : Nat} {e : Ip} (h : QG w W m e) (x : Int) (a : Bool) (B : List UInt8) (d : Nat) :
    QG w ((((W.drewN d).setCell ⟨m, 2, none⟩ (.int .i64 x)).setCell ⟨m, 38, none⟩ (.bool a)).setCell ⟨m, 39, none⟩ (.string (Str B))) m ⟨e.tos, e.id, x, e.pro, e.f6, e.fr, e.t6, e.to, a, B⟩ := by
  have ho := h.2.2.2
  have h0 := h.drewN d
  have h1 : QG w ((W.drewN d).setCell ⟨m, 2, none⟩ (.int .i64 x)) m ⟨e.tos, e.id, x, e.pro, e.f6, e.fr, e.t6, e.to, e.al, e.bd⟩ := h0.set 2 _ rfl ho
  have h2 := h1.set (e' := ⟨e.tos, e.id, x, e.pro, e.f6, e.fr, e.t6, e.to, a, e.bd⟩) 38 (.bool a) (set_end ⟨e.tos, e.id, x, e.pro, e.f6, e.fr, e.t6, e.to, e.al, e.bd⟩ ho 0 _) ho
  exact h2.set (e' := ⟨e.tos, e.id, x, e.pro, e.f6, e.fr, e.t6, e.to, a, B⟩) 39 (.string (Str B)) (set_end ⟨e.tos, e.id, x, e.pro, e.f6, e.fr, e.t6, e.to, a, e.bd⟩ ho 1 _) ho
theorem readV6_of {s : List UInt8} {c : Int} (hE : hdE6 s = 0) (h4 : by8 s 6 = 0) (h : opE6 s = c) (hc : c ≠ 0) : readV6 s = (zeroI, c) := by
  unfold readV6; rw [why6_opt hE h4, h, if_neg hc]
theorem readV6_is {s : List UInt8} (hE : hdE6 s = 0) (h4 : by8 s 6 = 0) (h : opE6 s = 0) : readV6 s = (iqOf s, 0) := by
  unfold readV6; rw [why6_opt hE h4, h, if_pos rfl]
theorem opQ_code (is : Bool) (l : List UInt8) : (optQ is l).2 = 0 ∨ (optQ is l).2 = 2 ∨ (optQ is l).2 = 5 := by
  unfold optQ
  generalize l.length = f
  induction f generalizing is l with
  | zero => left; rfl
  | succ f ih =>
    unfold optW
    repeat' split
    all_goals first | exact ih _ _ | simp


set_option maxRecDepth 100000 in
set_option maxHeartbeats 4000000 in
theorem rread6_opt (s : List UInt8) (hs : s.length ≤ 100000) (h1 : ¬ s.length < 40) (h2 : ¬ by8 s 0 / 16 ≠ 6) (h3 : ¬ s.length < wd s 4 + 40) (h4 : by8 s 6 = 0) (w : World) :
    Calls Try.prog 15 #[.string (Str s)] w fun x w' => x = .returned (.tuple #[.agg (ipC (readV6 s).1).toArray, .int .i64 (readV6 s).2]) ∧ Below w.heap.size w w' := by
  have hE : hdE6 s = 0 := hdE6_of (by omega) (by omega) (by omega)
  have hbl : (bd6 s).length = wd s 4 := (hdE6_zero hE).2.2.2
  have hsz := Str_size s
  have hq : decide ((s.length : Int) < 40) = false := by simp; omega
  have hp0 : 0 < s.length := by omega
  have hi0 : (0 : Int) < (s.length : Int) := by omega
  have e0 := Str_at s 0 (lt_zeroq hi0)
  have b0 := by8_lt s 0
  have hdv : (by8 s 0 : Int) / 16 = ((by8 s 0 / 16 : Nat) : Int) := rfl
  have hdt : (by8 s 0 : Int).tdiv 16 = ((by8 s 0 / 16 : Nat) : Int) := rfl
  have hwv : IntKind.u8.wrap ((by8 s 0 / 16 : Nat) : Int) = ((by8 s 0 / 16 : Nat) : Int) := by simp only [IntKind.wrap_u8]; omega
  have hv6 : (((by8 s 0 / 16 : Nat) : Int) != 6) = false := by simp; omega
  have hi4 : (4 : Int) ≤ (s.length : Int) := by omega
  have hi6 : (6 : Int) ≤ (s.length : Int) := by omega
  have hN4 : Hid (∀ W, Calls Try.prog 26 #[.string ((Str s).extract 4 6)] W fun x w' => x = .returned (.int .u64 (wd s 4)) ∧ w' = W) := Lib.hid fun W => rnum4 s hs 4 6 W
  have bn := wd_lt s 4 (by omega)
  have hwn : IntKind.i64.wrap (wd s 4 : Int) = (wd s 4 : Int) := by simp only [IntKind.wrap_i64]; omega
  have hwl : IntKind.i64.wrap ((s.length : Int) - 40) = (s.length : Int) - 40 := by simp only [IntKind.wrap_i64]; omega
  have hz6 : ((by8 s 6 : Int) == 0) = true := by simp; omega
  have hsb := Str_size (bd6 s)
  have HRa : Hid ((wd s 4 < 8 ∨ wd s 4 < 8 * by8 (bd6 s) 1 + 8) → readV6 s = (zeroI, 2)) := Lib.hid fun h => readV6_of hE h4 (by unfold opE6; rw [hbl, show hb6 s = 8 * by8 (bd6 s) 1 + 8 from rfl, if_pos h]) (by omega)
  have HRb : Hid (¬ (wd s 4 < 8 ∨ wd s 4 < 8 * by8 (bd6 s) 1 + 8) → (opt6 s).2 ≠ 0 → readV6 s = (zeroI, (opt6 s).2)) := Lib.hid fun h h' => readV6_of hE h4 (by unfold opE6; rw [hbl, show hb6 s = 8 * by8 (bd6 s) 1 + 8 from rfl, if_neg h, if_pos h']) h'
  have HRc : Hid (¬ (wd s 4 < 8 ∨ wd s 4 < 8 * by8 (bd6 s) 1 + 8) → (opt6 s).2 = 0 → by8 (bd6 s) 0 = 0 → readV6 s = (zeroI, 2)) := Lib.hid fun h h' h'' => readV6_of hE h4 (by unfold opE6; rw [hbl, show hb6 s = 8 * by8 (bd6 s) 1 + 8 from rfl, if_neg h, if_neg (by simp [h']), if_pos h'']) (by omega)
  have HRd : Hid (¬ (wd s 4 < 8 ∨ wd s 4 < 8 * by8 (bd6 s) 1 + 8) → (opt6 s).2 = 0 → by8 (bd6 s) 0 ≠ 0 → 1400 < wd s 4 - (8 * by8 (bd6 s) 1 + 8) → readV6 s = (zeroI, 6)) := Lib.hid fun h h' h'' h3 => readV6_of hE h4 (by unfold opE6; rw [hbl, show hb6 s = 8 * by8 (bd6 s) 1 + 8 from rfl, if_neg h, if_neg (by simp [h']), if_neg h'', if_pos h3]) (by omega)
  have HRe : Hid (¬ (wd s 4 < 8 ∨ wd s 4 < 8 * by8 (bd6 s) 1 + 8) → (opt6 s).2 = 0 → by8 (bd6 s) 0 ≠ 0 → ¬ 1400 < wd s 4 - (8 * by8 (bd6 s) 1 + 8) → readV6 s = (iqOf s, 0)) := Lib.hid fun h h' h'' h3 => readV6_is hE h4 (by unfold opE6; rw [hbl, show hb6 s = 8 * by8 (bd6 s) 1 + 8 from rfl, if_neg h, if_neg (by simp [h']), if_neg h'', if_neg h3])
  rw [hbl] at hsb
  have hbe : hb6 s = 8 * by8 (bd6 s) 1 + 8 := rfl
  have bx0 := by8_lt (bd6 s) 0
  have bx1 := by8_lt (bd6 s) 1
  have wx0 : IntKind.i64.wrap (by8 (bd6 s) 0 : Int) = (by8 (bd6 s) 0 : Int) := by simp only [IntKind.wrap_i64]; omega
  have wx1 : IntKind.i64.wrap (by8 (bd6 s) 1 : Int) = (by8 (bd6 s) 1 : Int) := by simp only [IntKind.wrap_i64]; omega
  have hbr : hb6 s ≤ 2048 := by omega
  have HOP : Hid (∀ W, Calls Try.prog 17 #[.string ((Str (bd6 s)).extract 2 (8 * by8 (bd6 s) 1 + 8))] W fun x w' => x = .returned (.tuple #[.bool (opt6 s).1, .int .i64 (opt6 s).2]) ∧ w' = W) := Lib.hid fun W => by
    have := ropt6_any (((bd6 s).take (hb6 s)).drop 2) (by simp; omega) W
    rw [show 8 * by8 (bd6 s) 1 + 8 = hb6 s from rfl, Str_extract, ← List.drop_take]
    exact this.mono fun x w' h => ⟨h.1, h.2.symm⟩
  have HC := opQ_code false (((bd6 s).take (hb6 s)).drop 2)
  have HC : (opt6 s).2 = 0 ∨ (opt6 s).2 = 2 ∨ (opt6 s).2 = 5 := HC
  have HCC := Lib.hid HC
  clear HC
  have HX0 : Hid (∀ h : 0 < (Str (bd6 s)).size, ((Str (bd6 s))[0]).toNat = by8 (bd6 s) 0) := Lib.hid fun h => Str_at (bd6 s) 0 h
  have HX1 : Hid (∀ h : 1 < (Str (bd6 s)).size, ((Str (bd6 s))[1]).toNat = by8 (bd6 s) 1) := Lib.hid fun h => Str_at (bd6 s) 1 h
  have hexd : (Str (bd6 s)).extract (8 * by8 (bd6 s) 1 + 8) (wd s 4) = Str ((bd6 s).drop (hb6 s)) := by
    rw [show 8 * by8 (bd6 s) 1 + 8 = hb6 s from rfl, Str_extract]
    exact congrArg Str (List.take_of_length_le (by rw [List.length_drop, hbl]; omega))
  generalize by8 s 0 / 16 = v at *
  generalize by8 s 0 = x at *
  clear b0
  have hq3 : decide ((s.length : Int) - 40 < (wd s 4 : Int)) = false := by simp; omega
  have i6 : (6 : Int) < (s.length : Int) := by omega
  have e6 := Str_at s 6 (lt_sizeq i6)
  have i7 : (7 : Int) < (s.length : Int) := by omega
  have e7 := Str_at s 7 (lt_sizeq i7)
  have u6 := by8_lt s 6; have u7 := by8_lt s 7
  have v6 : IntKind.i64.wrap (by8 s 6 : Int) = (by8 s 6 : Int) := by simp only [IntKind.wrap_i64]; omega
  have v7 : IntKind.i64.wrap (by8 s 7 : Int) = (by8 s 7 : Int) := by simp only [IntKind.wrap_i64]; omega
  have hi2 : (2 : Int) ≤ (s.length : Int) := by omega
  have hi24 : (24 : Int) ≤ (s.length : Int) := by omega
  have hi40 : (40 : Int) ≤ (s.length : Int) := by omega
  have hNa : Hid (∀ W, Calls Try.prog 26 #[.string ((Str s).extract 0 2)] W fun x w' => x = .returned (.int .u64 (num (s.take 2))) ∧ w' = W) := Lib.hid fun W => rnum4 s hs 0 2 W
  have hNb : Hid (∀ W, Calls Try.prog 26 #[.string ((Str s).extract 0 4)] W fun x w' => x = .returned (.int .u64 (num (s.take 4))) ∧ w' = W) := Lib.hid fun W => rnum4 s hs 0 4 W
  have bna := num_take_lt s
  have bnb := num_lt (s.take 4)
  obtain ⟨na, hna⟩ : ∃ x, x = num (s.take 2) := ⟨_, rfl⟩
  obtain ⟨nb, hnb⟩ : ∃ x, x = num (s.take 4) := ⟨_, rfl⟩
  obtain ⟨qa, hqa⟩ : ∃ x, x = na / 16 := ⟨_, rfl⟩
  obtain ⟨ra, hra⟩ : ∃ x, x = qa % 256 := ⟨_, rfl⟩
  obtain ⟨rb, hrb⟩ : ∃ x, x = nb % 1048576 := ⟨_, rfl⟩
  rw [← hna] at bna hNa
  rw [← hnb] at bnb hNb
  have lqa : qa < 65536 := by rw [hqa]; omega
  have lra : ra < 256 := by rw [hra]; exact Nat.mod_lt _ (by omega)
  have lrb : rb < 1048576 := by rw [hrb]; exact Nat.mod_lt _ (by omega)
  have ta : (na : Int) / 16 = (qa : Int) := by rw [hqa]; rfl
  have ta' : (na : Int).tdiv 16 = (qa : Int) := by rw [hqa]; rfl
  have tb : (qa : Int) % 256 = (ra : Int) := by rw [hra]; rfl
  have tb' : (qa : Int).tmod 256 = (ra : Int) := by rw [hra]; rfl
  have tc : (nb : Int) % 1048576 = (rb : Int) := by rw [hrb]; rfl
  have tc' : (nb : Int).tmod 1048576 = (rb : Int) := by rw [hrb]; rfl
  have HRA := Lib.hid (show ra = num (s.take 2) / 16 % 256 by rw [hra, hqa, hna])
  have HRB := Lib.hid (show rb = num (s.take 4) % 1048576 by rw [hrb, hnb])
  clear hna hnb hqa hra hrb bna bnb
  have y1 : IntKind.u64.wrap (qa : Int) = (qa : Int) := u64_small qa (by omega)
  have y2 : IntKind.u64.wrap (ra : Int) = (ra : Int) := u64_small ra (by omega)
  have y3 : IntKind.i64.wrap (ra : Int) = (ra : Int) := i64_small ra (by omega)
  have y4 : IntKind.u64.wrap (rb : Int) = (rb : Int) := u64_small rb (by omega)
  have y5 : IntKind.i64.wrap (rb : Int) = (rb : Int) := i64_small rb (by omega)
  have y6 : IntKind.i64.wrap (40 + (wd s 4 : Int)) = 40 + (wd s 4 : Int) := i64_forty _ bn
  have y7 : (0 : Int) ≤ 40 + (wd s 4 : Int) := by omega
  have y8 : (40 : Int) ≤ 40 + (wd s 4 : Int) := by omega
  have y9 : 40 + (wd s 4 : Int) ≤ (s.length : Int) := by omega
  have ya : (40 + (wd s 4 : Int)).toNat = 40 + wd s 4 := by omega
  have hexb : (Str s).extract 40 (40 + wd s 4) = Str (bd6 s) := by rw [Str_extract, show 40 + wd s 4 - 40 = wd s 4 by omega]; rfl
  have l8 : ((s.drop 8).take 16).length = 16 := by simp; omega
  have l24 : ((s.drop 24).take 16).length = 16 := by simp; omega
  have hA1 : Hid (∀ W, Calls Try.prog 27 #[.string ((Str s).extract 8 24)] W fun e w' => e = .returned (.tuple #[.agg (addrC true ((s.drop 8).take 16)).toArray, .bool true]) ∧ Below W.heap.size W w') := Lib.hid fun W => by
    have := rread_good true ((s.drop 8).take 16) (by omega) (by rw [l8]; rfl) (by rw [l8]; rfl) W
    rw [readV16 _ l8] at this
    rw [Str_extract]; exact this
  have hA2 : Hid (∀ W, Calls Try.prog 27 #[.string ((Str s).extract 24 40)] W fun e w' => e = .returned (.tuple #[.agg (addrC true ((s.drop 24).take 16)).toArray, .bool true]) ∧ Below W.heap.size W w') := Lib.hid fun W => by
    have := rread_good true ((s.drop 24).take 16) (by omega) (by rw [l24]; rfl) (by rw [l24]; rfl) W
    rw [readV16 _ l24] at this
    rw [Str_extract]; exact this
  have hok12 := fok_addr true _ l8
  have hok16 := fok_addr true _ l24
  have hbp := bld_part6 ra rb (by8 s 6) (by8 s 7) (bd6 s)
  obtain ⟨E0, hE0⟩ : ∃ E0 : Ip, E0 = ⟨ra, rb, by8 s 6, by8 s 7, false, [0, 0, 0, 0, 0, 0, 0, 0, 0, 0, 0, 0, 0, 0, 0, 0], false, [0, 0, 0, 0, 0, 0, 0, 0, 0, 0, 0, 0, 0, 0, 0, 0], false, bd6 s⟩ := ⟨_, rfl⟩
  obtain ⟨E1, hE1⟩ : ∃ E1 : Ip, E1 = ⟨ra, rb, by8 s 6, by8 s 7, true, (s.drop 8).take 16, true, (s.drop 24).take 16, false, bd6 s⟩ := ⟨_, rfl⟩
  rw [← hE0] at hbp
  have ok0 : E0.ok := by rw [hE0]; exact ⟨rfl, rfl⟩
  have ok1 : E1.ok := by rw [hE1]; exact ⟨l8, l24⟩
  have HEE := Lib.hid (show (⟨E0.tos, E0.id, E0.ttl, E0.pro, true, (s.drop 8).take 16, true, (s.drop 24).take 16, E0.al, E0.bd⟩ : Ip) = E1 by rw [hE0, hE1])
  have HT := Lib.hid (show E1.ttl = (by8 s 6 : Int) by rw [hE1])
  have HBD := Lib.hid (show E1.bd = bd6 s by rw [hE1])
  have HL8 := Lib.hid l8
  have HL24 := Lib.hid l24
  have hfok0 := fok_ip ok0
  have hfok1 := fok_ip ok1
  have HO0 := Lib.hid ok0
  have HO1 := Lib.hid ok1
  have hfm1 : ∀ W : World, free? (W.alloc (.cells #[.int .i64 0, .int .i64 0, .int .i64 0, .int .i64 0, .bool false, .int .u8 0, .int .u8 0, .int .u8 0, .int .u8 0, .int .u8 0, .int .u8 0, .int .u8 0, .int .u8 0, .int .u8 0, .int .u8 0, .int .u8 0, .int .u8 0, .int .u8 0, .int .u8 0, .int .u8 0, .int .u8 0, .bool false, .int .u8 0, .int .u8 0, .int .u8 0, .int .u8 0, .int .u8 0, .int .u8 0, .int .u8 0, .int .u8 0, .int .u8 0, .int .u8 0, .int .u8 0, .int .u8 0, .int .u8 0, .int .u8 0, .int .u8 0, .int .u8 0, .bool false, .string ⟨#[]⟩] 26)) W.heap.size 0 40 = true := fun W => free_made W _ _ 40 (by simp)
  have hfm2 : ∀ W : World, free? (W.alloc (.cells #[.int .i64 0, .int .i64 0, .int .i64 0, .int .i64 0, .bool false, .int .u8 0, .int .u8 0, .int .u8 0, .int .u8 0, .int .u8 0, .int .u8 0, .int .u8 0, .int .u8 0, .int .u8 0, .int .u8 0, .int .u8 0, .int .u8 0, .int .u8 0, .int .u8 0, .int .u8 0, .int .u8 0, .bool false, .int .u8 0, .int .u8 0, .int .u8 0, .int .u8 0, .int .u8 0, .int .u8 0, .int .u8 0, .int .u8 0, .int .u8 0, .int .u8 0, .int .u8 0, .int .u8 0, .int .u8 0, .int .u8 0, .int .u8 0, .int .u8 0, .bool false, .string ⟨#[]⟩] 26)).drew W.heap.size 0 40 = true := fun W => free_made W _ _ 40 (by simp)
  have hfm3 : ∀ W : World, free? (W.drew.alloc (.cells #[.int .i64 0, .int .i64 0, .int .i64 0, .int .i64 0, .bool false, .int .u8 0, .int .u8 0, .int .u8 0, .int .u8 0, .int .u8 0, .int .u8 0, .int .u8 0, .int .u8 0, .int .u8 0, .int .u8 0, .int .u8 0, .int .u8 0, .int .u8 0, .int .u8 0, .int .u8 0, .int .u8 0, .bool false, .int .u8 0, .int .u8 0, .int .u8 0, .int .u8 0, .int .u8 0, .int .u8 0, .int .u8 0, .int .u8 0, .int .u8 0, .int .u8 0, .int .u8 0, .int .u8 0, .int .u8 0, .int .u8 0, .int .u8 0, .int .u8 0, .bool false, .string ⟨#[]⟩] 26)) W.heap.size 0 40 = true := fun W => free_made W.drew _ _ 40 (by simp)
  have hfm5 : ∀ (W : World) (d : Nat), free? ((W.alloc (.cells #[.int .i64 0, .int .i64 0, .int .i64 0, .int .i64 0, .bool false, .int .u8 0, .int .u8 0, .int .u8 0, .int .u8 0, .int .u8 0, .int .u8 0, .int .u8 0, .int .u8 0, .int .u8 0, .int .u8 0, .int .u8 0, .int .u8 0, .int .u8 0, .int .u8 0, .int .u8 0, .int .u8 0, .bool false, .int .u8 0, .int .u8 0, .int .u8 0, .int .u8 0, .int .u8 0, .int .u8 0, .int .u8 0, .int .u8 0, .int .u8 0, .int .u8 0, .int .u8 0, .int .u8 0, .int .u8 0, .int .u8 0, .int .u8 0, .int .u8 0, .bool false, .string ⟨#[]⟩] 26)).drewN d) W.heap.size 0 40 = true := fun W d => free_drewN (hfm1 W) d
  obtain ⟨E2, hE2⟩ : ∃ E2 : Ip, E2 = ⟨ra, rb, by8 (bd6 s) 0, by8 s 7, true, (s.drop 8).take 16, true, (s.drop 24).take 16, (opt6 s).1, (bd6 s).drop (hb6 s)⟩ := ⟨_, rfl⟩
  have hiq : iqOf s = E2 := (iqOf_opt s h4 ra rb HRA.out HRB.out).trans hE2.symm
  have HIQ := Lib.hid hiq
  clear hiq
  have HE2 := Lib.hid (show (⟨E1.tos, E1.id, by8 (bd6 s) 0, E1.pro, E1.f6, E1.fr, E1.t6, E1.to, (opt6 s).1, (bd6 s).drop (hb6 s)⟩ : Ip) = E2 by rw [hE1, hE2])
  have ok2 : E2.ok := by rw [hE2]; exact ⟨l8, l24⟩
  have HO2 := Lib.hid ok2
  have hfok2 := fok_ip ok2
  have HB2 := Lib.hid (show E2.bd = (bd6 s).drop (hb6 s) by rw [hE2])
  have hsd := Str_size ((bd6 s).drop (hb6 s))
  rw [List.length_drop, hbl] at hsd
  clear hE2 ok2
  generalize (opt6 s).1 = o1 at *
  generalize (opt6 s).2 = o2 at *
  generalize (bd6 s).drop (hb6 s) = DD at *
  rw [hbe] at hsd
  clear hbe hbr
  generalize by8 (bd6 s) 0 = x0 at *
  generalize by8 (bd6 s) 1 = x1 at *
  generalize (s.drop 8).take 16 = A1 at *
  generalize (s.drop 24).take 16 = A2 at *
  generalize wd s 4 = n at *
  generalize by8 s 6 = b6 at *
  generalize by8 s 7 = b7 at *
  generalize bd6 s = BD at *
  clear hs h1 h2 h3 bn u6 u7 hE0 ok0 ok1 l8 l24 hE1 hE
  clear h4
  have H0 := Lib.hid (QR.start w)
  have hbz := bld_zeroQ
  have hfok := fok_ip zeroI_ok
  have hf0 := free_made (w.alloc (.cells #[.int .i64 0, .int .i64 0, .int .i64 0, .int .i64 0, .bool false, .int .u8 0, .int .u8 0, .int .u8 0, .int .u8 0, .int .u8 0, .int .u8 0, .int .u8 0, .int .u8 0, .int .u8 0, .int .u8 0, .int .u8 0, .int .u8 0, .int .u8 0, .int .u8 0, .int .u8 0, .int .u8 0, .bool false, .int .u8 0, .int .u8 0, .int .u8 0, .int .u8 0, .int .u8 0, .int .u8 0, .int .u8 0, .int .u8 0, .int .u8 0, .int .u8 0, .int .u8 0, .int .u8 0, .int .u8 0, .int .u8 0, .int .u8 0, .int .u8 0, .bool false, .string ⟨#[]⟩] 26)) #[.int .i64 0, .int .i64 0, .int .i64 0, .int .i64 0, .bool false, .int .u8 0, .int .u8 0, .int .u8 0, .int .u8 0, .int .u8 0, .int .u8 0, .int .u8 0, .int .u8 0, .int .u8 0, .int .u8 0, .int .u8 0, .int .u8 0, .int .u8 0, .int .u8 0, .int .u8 0, .int .u8 0, .bool false, .int .u8 0, .int .u8 0, .int .u8 0, .int .u8 0, .int .u8 0, .int .u8 0, .int .u8 0, .int .u8 0, .int .u8 0, .int .u8 0, .int .u8 0, .int .u8 0, .int .u8 0, .int .u8 0, .int .u8 0, .int .u8 0, .bool false, .string ⟨#[]⟩] 26 40 (by simp)
  rw [show (w.alloc (.cells #[.int .i64 0, .int .i64 0, .int .i64 0, .int .i64 0, .bool false, .int .u8 0, .int .u8 0, .int .u8 0, .int .u8 0, .int .u8 0, .int .u8 0, .int .u8 0, .int .u8 0, .int .u8 0, .int .u8 0, .int .u8 0, .int .u8 0, .int .u8 0, .int .u8 0, .int .u8 0, .int .u8 0, .bool false, .int .u8 0, .int .u8 0, .int .u8 0, .int .u8 0, .int .u8 0, .int .u8 0, .int .u8 0, .int .u8 0, .int .u8 0, .int .u8 0, .int .u8 0, .int .u8 0, .int .u8 0, .int .u8 0, .int .u8 0, .int .u8 0, .bool false, .string ⟨#[]⟩] 26)).heap.size = w.heap.size + 1 by simp] at hf0
  rw [zeroI_cells] at H0
  go_enter Try.func15, Try.ntmps15
  go_upto_region 2 with (fail)
  generalize aggW ((w.alloc (.cells #[.int .i64 0, .int .i64 0, .int .i64 0, .int .i64 0, .bool false, .int .u8 0, .int .u8 0, .int .u8 0, .int .u8 0, .int .u8 0, .int .u8 0, .int .u8 0, .int .u8 0, .int .u8 0, .int .u8 0, .int .u8 0, .int .u8 0, .int .u8 0, .int .u8 0, .int .u8 0, .int .u8 0, .bool false, .int .u8 0, .int .u8 0, .int .u8 0, .int .u8 0, .int .u8 0, .int .u8 0, .int .u8 0, .int .u8 0, .int .u8 0, .int .u8 0, .int .u8 0, .int .u8 0, .int .u8 0, .int .u8 0, .int .u8 0, .int .u8 0, .bool false, .string ⟨#[]⟩] 26)).alloc (.cells #[.int .i64 0, .int .i64 0, .int .i64 0, .int .i64 0, .bool false, .int .u8 0, .int .u8 0, .int .u8 0, .int .u8 0, .int .u8 0, .int .u8 0, .int .u8 0, .int .u8 0, .int .u8 0, .int .u8 0, .int .u8 0, .int .u8 0, .int .u8 0, .int .u8 0, .int .u8 0, .int .u8 0, .bool false, .int .u8 0, .int .u8 0, .int .u8 0, .int .u8 0, .int .u8 0, .int .u8 0, .int .u8 0, .int .u8 0, .int .u8 0, .int .u8 0, .int .u8 0, .int .u8 0, .int .u8 0, .int .u8 0, .int .u8 0, .int .u8 0, .bool false, .string ⟨#[]⟩] 26)) (w.heap.size + 1) _ = W at H0 ⊢
  clear hf0
  have hr := H0.out.row
  have hf := H0.out.free
  go_upto_region 9 with (go_at_call 26; (with_reducible refine (hN4.out _).mono ?_); rintro x w5 ⟨rfl, hw5⟩; subst hw5)
  clear hr hf
  go_cut [6] from 11 (fun q wr => ∃ m : Nat, q = .pointer (some ⟨m, 0, none⟩) ∧ QG w wr m E0)
  case first =>
    refine wp_region_held_drew (S := fun _ => True) (by kernel_rfl) (trivial) (fun hHeld => ?_)
    refine wpAnyH_take (i := 0) (oi := { dst := some 31, op := _, type := _, pos := _, after := _, guard := _ }) (v := ?v1) rfl (by kernel_rfl) (by kernel_rfl) (by kernel_rfl) (fun _ _ _ h => h) (Or.inl ⟨by rfl, ?y1⟩) (by assumption) ?r1
    case y1 => (intro w hSw; go_simp; try with_reducible rfl)
    try simp only [Act.put, List.setIfInBounds_toArray, List.set_cons_zero, List.set_cons_succ]
    refine wpAnyH_take (i := 1) (oi := { dst := some 32, op := _, type := _, pos := _, after := _, guard := _ }) (v := ?v2) rfl (by kernel_rfl) (by kernel_rfl) (by kernel_rfl) (fun _ _ _ h => h) (Or.inl ⟨by rfl, ?y2⟩) (by assumption) ?r2
    case y2 => (intro w hSw; go_simp; try with_reducible rfl)
    try simp only [Act.put, List.setIfInBounds_toArray, List.set_cons_zero, List.set_cons_succ]
    refine wpAnyH_take (i := 6) (oi := { dst := some 37, op := _, type := _, pos := _, after := _, guard := _ }) (v := ?v3) rfl (by kernel_rfl) (by kernel_rfl) (by kernel_rfl) (fun _ _ _ h => h) (Or.inl ⟨by rfl, ?y3⟩) (by assumption) ?r3
    case y3 => (intro w hSw; go_simp; try with_reducible rfl)
    try simp only [Act.put, List.setIfInBounds_toArray, List.set_cons_zero, List.set_cons_succ]
    refine wpAnyH_take (i := 7) (oi := { dst := some 38, op := _, type := _, pos := _, after := _, guard := _ }) (v := ?v4) rfl (by kernel_rfl) (by kernel_rfl) (by kernel_rfl) (fun _ _ _ h => h) (Or.inl ⟨by rfl, ?y4⟩) (by assumption) ?r4
    case y4 => (intro w hSw; go_simp; try with_reducible rfl)
    try simp only [Act.put, List.setIfInBounds_toArray, List.set_cons_zero, List.set_cons_succ]
    refine wpAnyH_take (i := 11) (oi := { dst := some 42, op := _, type := _, pos := _, after := _, guard := _ }) (v := ?v5) rfl (by kernel_rfl) (by kernel_rfl) (by kernel_rfl) (fun _ _ _ h => h) (Or.inl ⟨by rfl, ?y5⟩) (by assumption) ?r5
    case y5 => (intro w hSw; go_simp; try with_reducible rfl)
    try simp only [Act.put, List.setIfInBounds_toArray, List.set_cons_zero, List.set_cons_succ]
    refine wpAnyH_take (i := 12) (oi := { dst := some 43, op := _, type := _, pos := _, after := _, guard := _ }) (v := ?v6) rfl (by kernel_rfl) (by kernel_rfl) (by kernel_rfl) (fun _ _ _ h => h) (Or.inl ⟨by rfl, ?y6⟩) (by assumption) ?r6
    case y6 => (intro w hSw; go_simp; try with_reducible rfl)
    try simp only [Act.put, List.setIfInBounds_toArray, List.set_cons_zero, List.set_cons_succ]
    refine wpAnyH_take (i := 13) (oi := { dst := some 44, op := _, type := _, pos := _, after := _, guard := _ }) (v := ?v7) rfl (by kernel_rfl) (by kernel_rfl) (by kernel_rfl) (fun _ _ _ h => h) (Or.inl ⟨by rfl, ?y7⟩) (by assumption) ?r7
    case y7 => (intro w hSw; go_simp; try with_reducible rfl)
    try simp only [Act.put, List.setIfInBounds_toArray, List.set_cons_zero, List.set_cons_succ]
    refine wpAnyH_take (i := 14) (oi := { dst := some 45, op := _, type := _, pos := _, after := _, guard := _ }) (v := ?v8) rfl (by kernel_rfl) (by kernel_rfl) (by kernel_rfl) (fun _ _ _ h => h) (Or.inl ⟨by rfl, ?y8⟩) (by assumption) ?r8
    case y8 => (intro w hSw; go_simp; try with_reducible rfl)
    try simp only [Act.put, List.setIfInBounds_toArray, List.set_cons_zero, List.set_cons_succ]
    refine wpAnyH_take (i := 15) (oi := { dst := some 46, op := _, type := _, pos := _, after := _, guard := _ }) (v := ?v9) rfl (by kernel_rfl) (by kernel_rfl) (by kernel_rfl) (fun _ _ _ h => h) (Or.inl ⟨by rfl, ?y9⟩) (by assumption) ?r9
    case y9 => (intro w hSw; go_simp; try with_reducible rfl)
    try simp only [Act.put, List.setIfInBounds_toArray, List.set_cons_zero, List.set_cons_succ]
    refine wpAnyH_take (i := 16) (oi := { dst := some 47, op := _, type := _, pos := _, after := _, guard := _ }) (v := ?v10) rfl (by kernel_rfl) (by kernel_rfl) (by kernel_rfl) (fun _ _ _ h => h) (Or.inl ⟨by rfl, ?y10⟩) (by assumption) ?r10
    case y10 => (intro w hSw; go_simp; try with_reducible rfl)
    try simp only [Act.put, List.setIfInBounds_toArray, List.set_cons_zero, List.set_cons_succ]
    refine wpAnyH_take (i := 17) (oi := { dst := some 48, op := _, type := _, pos := _, after := _, guard := _ }) (v := ?v11) rfl (by kernel_rfl) (by kernel_rfl) (by kernel_rfl) (fun _ _ _ h => h) (Or.inl ⟨by rfl, ?y11⟩) (by assumption) ?r11
    case y11 => (intro w hSw; go_simp; try with_reducible rfl)
    try simp only [Act.put, List.setIfInBounds_toArray, List.set_cons_zero, List.set_cons_succ]
    refine wpAnyH_take (i := 18) (oi := { dst := some 49, op := _, type := _, pos := _, after := _, guard := _ }) (v := ?v12) rfl (by kernel_rfl) (by kernel_rfl) (by kernel_rfl) (fun _ _ _ h => h) (Or.inl ⟨by rfl, ?y12⟩) (by assumption) ?r12
    case y12 => (intro w hSw; go_simp; try with_reducible rfl)
    try simp only [Act.put, List.setIfInBounds_toArray, List.set_cons_zero, List.set_cons_succ]
    refine wpAnyH_take (i := 19) (oi := { dst := some 50, op := _, type := _, pos := _, after := _, guard := _ }) (v := ?v13) rfl (by kernel_rfl) (by kernel_rfl) (by kernel_rfl) (fun _ _ _ h => h) (Or.inl ⟨by rfl, ?y13⟩) (by assumption) ?r13
    case y13 => (intro w hSw; go_simp; try with_reducible rfl)
    try simp only [Act.put, List.setIfInBounds_toArray, List.set_cons_zero, List.set_cons_succ]
    refine wpAnyH_take (i := 20) (oi := { dst := some 51, op := _, type := _, pos := _, after := _, guard := _ }) (v := ?v14) rfl (by kernel_rfl) (by kernel_rfl) (by kernel_rfl) (fun _ _ _ h => h) (Or.inl ⟨by rfl, ?y14⟩) (by assumption) ?r14
    case y14 => (intro w hSw; go_simp; try with_reducible rfl)
    try simp only [Act.put, List.setIfInBounds_toArray, List.set_cons_zero, List.set_cons_succ]
    refine wpAnyH_ready (rs := [2, 22]) (by kernel_rfl) (by simp) (AllReadyH.cons (o := _) rfl (fun K hK => ?_) (AllReadyH.cons (o := _) rfl (fun K hK => ?_) AllReadyH.nil))
    · go_simp
      (go_at_call 26; (with_reducible refine (hNa.out _).mono ?_); rintro x w5 ⟨rfl, hw5⟩; subst hw5)
      try go_wp2_with fail
      refine hK.out _ _ (trivial) (fun hHeld => ?_)
      clear hK K
      try simp only [Act.put, List.setIfInBounds_toArray, List.set_cons_zero, List.set_cons_succ]
      refine wpAnyH_take (i := 3) (oi := { dst := some 34, op := _, type := _, pos := _, after := _, guard := _ }) (v := ?v15) rfl (by kernel_rfl) (by kernel_rfl) (by kernel_rfl) (fun _ _ _ h => h) (Or.inl ⟨by rfl, ?y15⟩) (by assumption) ?r15
      case y15 => (intro w hSw; go_simp; try with_reducible rfl)
      try simp only [Act.put, List.setIfInBounds_toArray, List.set_cons_zero, List.set_cons_succ]
      refine wpAnyH_take (i := 4) (oi := { dst := some 35, op := _, type := _, pos := _, after := _, guard := _ }) (v := ?v16) rfl (by kernel_rfl) (by kernel_rfl) (by kernel_rfl) (fun _ _ _ h => h) (Or.inl ⟨by rfl, ?y16⟩) (by assumption) ?r16
      case y16 => (intro w hSw; go_simp; try with_reducible rfl)
      try simp only [Act.put, List.setIfInBounds_toArray, List.set_cons_zero, List.set_cons_succ]
      refine wpAnyH_take (i := 5) (oi := { dst := some 36, op := _, type := _, pos := _, after := _, guard := _ }) (v := ?v17) rfl (by kernel_rfl) (by kernel_rfl) (by kernel_rfl) (fun _ _ _ h => h) (Or.inl ⟨by rfl, ?y17⟩) (by assumption) ?r17
      case y17 => (intro w hSw; go_simp; try with_reducible rfl)
      try simp only [Act.put, List.setIfInBounds_toArray, List.set_cons_zero, List.set_cons_succ]
      refine wpAnyH_ready (rs := [8, 22]) (by kernel_rfl) (by simp) (AllReadyH.cons (o := _) rfl (fun K hK => ?_) (AllReadyH.cons (o := _) rfl (fun K hK => ?_) AllReadyH.nil))
      · go_simp
        (go_at_call 26; (with_reducible refine (hNb.out _).mono ?_); rintro x w5 ⟨rfl, hw5⟩; subst hw5)
        try go_wp2_with fail
        refine hK.out _ _ (trivial) (fun hHeld => ?_)
        clear hK K
        try simp only [Act.put, List.setIfInBounds_toArray, List.set_cons_zero, List.set_cons_succ]
        refine wpAnyH_take (i := 9) (oi := { dst := some 40, op := _, type := _, pos := _, after := _, guard := _ }) (v := ?v18) rfl (by kernel_rfl) (by kernel_rfl) (by kernel_rfl) (fun _ _ _ h => h) (Or.inl ⟨by rfl, ?y18⟩) (by assumption) ?r18
        case y18 => (intro w hSw; go_simp; try with_reducible rfl)
        try simp only [Act.put, List.setIfInBounds_toArray, List.set_cons_zero, List.set_cons_succ]
        refine wpAnyH_take (i := 10) (oi := { dst := some 41, op := _, type := _, pos := _, after := _, guard := _ }) (v := ?v19) rfl (by kernel_rfl) (by kernel_rfl) (by kernel_rfl) (fun _ _ _ h => h) (Or.inl ⟨by rfl, ?y19⟩) (by assumption) ?r19
        case y19 => (intro w hSw; go_simp; try with_reducible rfl)
        try simp only [Act.put, List.setIfInBounds_toArray, List.set_cons_zero, List.set_cons_succ]
        refine wpAnyH_take (i := 21) (oi := { dst := some 52, op := _, type := _, pos := _, after := _, guard := _ }) (v := ?v20) rfl (by kernel_rfl) (by kernel_rfl) (by kernel_rfl) (fun _ _ _ h => h) (Or.inl ⟨by rfl, ?y20⟩) (by assumption) ?r20
        case y20 => (intro w hSw; go_simp; try with_reducible rfl)
        try simp only [Act.put, List.setIfInBounds_toArray, List.set_cons_zero, List.set_cons_succ]
        refine wpAnyH_ready (rs := [22]) (by kernel_rfl) (by simp) (AllReadyH.cons (o := _) rfl (fun K hK => ?_) AllReadyH.nil)
        go_simp
        refine hK.out _ _ (trivial) (fun hHeld => ?_)
        clear hK K
        try simp only [Act.put, List.setIfInBounds_toArray, List.set_cons_zero, List.set_cons_succ]
        refine wpAnyH_ready (rs := [23]) (by kernel_rfl) (by simp) (AllReadyH.cons (o := _) rfl (fun K hK => ?_) AllReadyH.nil)
        go_simp
        refine hK.out _ _ (trivial) (fun hHeld => ?_)
        clear hK K
        try simp only [Act.put, List.setIfInBounds_toArray, List.set_cons_zero, List.set_cons_succ]
        refine wpAnyH_done (by kernel_rfl) ?_ _
        go_wp2
        go_meet
        case rel => exact ⟨_, rfl, by first | exact QG.made H0.out E0 HO0.out | exact QG.made (H0.out.drewN 1) E0 HO0.out | exact QG.made (H0.out.drewN 2) E0 HO0.out | exact QG.made (H0.out.drewN 3) E0 HO0.out⟩
      · go_simp
        refine hK.out _ _ (trivial) (fun hHeld => ?_)
        clear hK K
        try simp only [Act.put, List.setIfInBounds_toArray, List.set_cons_zero, List.set_cons_succ]
        refine wpAnyH_ready (rs := [8]) (by kernel_rfl) (by simp) (AllReadyH.cons (o := _) rfl (fun K hK => ?_) AllReadyH.nil)
        go_simp
        (go_at_call 26; (with_reducible refine (hNb.out _).mono ?_); rintro x w5 ⟨rfl, hw5⟩; subst hw5)
        try go_wp2_with fail
        refine hK.out _ _ (trivial) (fun hHeld => ?_)
        clear hK K
        try simp only [Act.put, List.setIfInBounds_toArray, List.set_cons_zero, List.set_cons_succ]
        refine wpAnyH_take (i := 9) (oi := { dst := some 40, op := _, type := _, pos := _, after := _, guard := _ }) (v := ?v21) rfl (by kernel_rfl) (by kernel_rfl) (by kernel_rfl) (fun _ _ _ h => h) (Or.inl ⟨by rfl, ?y21⟩) (by assumption) ?r21
        case y21 => (intro w hSw; go_simp; try with_reducible rfl)
        try simp only [Act.put, List.setIfInBounds_toArray, List.set_cons_zero, List.set_cons_succ]
        refine wpAnyH_take (i := 10) (oi := { dst := some 41, op := _, type := _, pos := _, after := _, guard := _ }) (v := ?v22) rfl (by kernel_rfl) (by kernel_rfl) (by kernel_rfl) (fun _ _ _ h => h) (Or.inl ⟨by rfl, ?y22⟩) (by assumption) ?r22
        case y22 => (intro w hSw; go_simp; try with_reducible rfl)
        try simp only [Act.put, List.setIfInBounds_toArray, List.set_cons_zero, List.set_cons_succ]
        refine wpAnyH_take (i := 21) (oi := { dst := some 52, op := _, type := _, pos := _, after := _, guard := _ }) (v := ?v23) rfl (by kernel_rfl) (by kernel_rfl) (by kernel_rfl) (fun _ _ _ h => h) (Or.inl ⟨by rfl, ?y23⟩) (by assumption) ?r23
        case y23 => (intro w hSw; go_simp; try with_reducible rfl)
        try simp only [Act.put, List.setIfInBounds_toArray, List.set_cons_zero, List.set_cons_succ]
        refine wpAnyH_ready (rs := [23]) (by kernel_rfl) (by simp) (AllReadyH.cons (o := _) rfl (fun K hK => ?_) AllReadyH.nil)
        go_simp
        refine hK.out _ _ (trivial) (fun hHeld => ?_)
        clear hK K
        try simp only [Act.put, List.setIfInBounds_toArray, List.set_cons_zero, List.set_cons_succ]
        refine wpAnyH_done (by kernel_rfl) ?_ _
        go_wp2
        go_meet
        case rel => exact ⟨_, rfl, by first | exact QG.made H0.out E0 HO0.out | exact QG.made (H0.out.drewN 1) E0 HO0.out | exact QG.made (H0.out.drewN 2) E0 HO0.out | exact QG.made (H0.out.drewN 3) E0 HO0.out⟩
    · go_simp
      refine hK.out _ _ (trivial) (fun hHeld => ?_)
      clear hK K
      try simp only [Act.put, List.setIfInBounds_toArray, List.set_cons_zero, List.set_cons_succ]
      refine wpAnyH_ready (rs := [2]) (by kernel_rfl) (by simp) (AllReadyH.cons (o := _) rfl (fun K hK => ?_) AllReadyH.nil)
      go_simp
      (go_at_call 26; (with_reducible refine (hNa.out _).mono ?_); rintro x w5 ⟨rfl, hw5⟩; subst hw5)
      try go_wp2_with fail
      refine hK.out _ _ (trivial) (fun hHeld => ?_)
      clear hK K
      try simp only [Act.put, List.setIfInBounds_toArray, List.set_cons_zero, List.set_cons_succ]
      refine wpAnyH_take (i := 3) (oi := { dst := some 34, op := _, type := _, pos := _, after := _, guard := _ }) (v := ?v24) rfl (by kernel_rfl) (by kernel_rfl) (by kernel_rfl) (fun _ _ _ h => h) (Or.inl ⟨by rfl, ?y24⟩) (by assumption) ?r24
      case y24 => (intro w hSw; go_simp; try with_reducible rfl)
      try simp only [Act.put, List.setIfInBounds_toArray, List.set_cons_zero, List.set_cons_succ]
      refine wpAnyH_take (i := 4) (oi := { dst := some 35, op := _, type := _, pos := _, after := _, guard := _ }) (v := ?v25) rfl (by kernel_rfl) (by kernel_rfl) (by kernel_rfl) (fun _ _ _ h => h) (Or.inl ⟨by rfl, ?y25⟩) (by assumption) ?r25
      case y25 => (intro w hSw; go_simp; try with_reducible rfl)
      try simp only [Act.put, List.setIfInBounds_toArray, List.set_cons_zero, List.set_cons_succ]
      refine wpAnyH_take (i := 5) (oi := { dst := some 36, op := _, type := _, pos := _, after := _, guard := _ }) (v := ?v26) rfl (by kernel_rfl) (by kernel_rfl) (by kernel_rfl) (fun _ _ _ h => h) (Or.inl ⟨by rfl, ?y26⟩) (by assumption) ?r26
      case y26 => (intro w hSw; go_simp; try with_reducible rfl)
      try simp only [Act.put, List.setIfInBounds_toArray, List.set_cons_zero, List.set_cons_succ]
      refine wpAnyH_ready (rs := [8]) (by kernel_rfl) (by simp) (AllReadyH.cons (o := _) rfl (fun K hK => ?_) AllReadyH.nil)
      go_simp
      (go_at_call 26; (with_reducible refine (hNb.out _).mono ?_); rintro x w5 ⟨rfl, hw5⟩; subst hw5)
      try go_wp2_with fail
      refine hK.out _ _ (trivial) (fun hHeld => ?_)
      clear hK K
      try simp only [Act.put, List.setIfInBounds_toArray, List.set_cons_zero, List.set_cons_succ]
      refine wpAnyH_take (i := 9) (oi := { dst := some 40, op := _, type := _, pos := _, after := _, guard := _ }) (v := ?v27) rfl (by kernel_rfl) (by kernel_rfl) (by kernel_rfl) (fun _ _ _ h => h) (Or.inl ⟨by rfl, ?y27⟩) (by assumption) ?r27
      case y27 => (intro w hSw; go_simp; try with_reducible rfl)
      try simp only [Act.put, List.setIfInBounds_toArray, List.set_cons_zero, List.set_cons_succ]
      refine wpAnyH_take (i := 10) (oi := { dst := some 41, op := _, type := _, pos := _, after := _, guard := _ }) (v := ?v28) rfl (by kernel_rfl) (by kernel_rfl) (by kernel_rfl) (fun _ _ _ h => h) (Or.inl ⟨by rfl, ?y28⟩) (by assumption) ?r28
      case y28 => (intro w hSw; go_simp; try with_reducible rfl)
      try simp only [Act.put, List.setIfInBounds_toArray, List.set_cons_zero, List.set_cons_succ]
      refine wpAnyH_take (i := 21) (oi := { dst := some 52, op := _, type := _, pos := _, after := _, guard := _ }) (v := ?v29) rfl (by kernel_rfl) (by kernel_rfl) (by kernel_rfl) (fun _ _ _ h => h) (Or.inl ⟨by rfl, ?y29⟩) (by assumption) ?r29
      case y29 => (intro w hSw; go_simp; try with_reducible rfl)
      try simp only [Act.put, List.setIfInBounds_toArray, List.set_cons_zero, List.set_cons_succ]
      refine wpAnyH_ready (rs := [23]) (by kernel_rfl) (by simp) (AllReadyH.cons (o := _) rfl (fun K hK => ?_) AllReadyH.nil)
      go_simp
      refine hK.out _ _ (trivial) (fun hHeld => ?_)
      clear hK K
      try simp only [Act.put, List.setIfInBounds_toArray, List.set_cons_zero, List.set_cons_succ]
      refine wpAnyH_done (by kernel_rfl) ?_ _
      go_wp2
      go_meet
      case rel => exact ⟨_, rfl, by first | exact QG.made H0.out E0 HO0.out | exact QG.made (H0.out.drewN 1) E0 HO0.out | exact QG.made (H0.out.drewN 2) E0 HO0.out | exact QG.made (H0.out.drewN 3) E0 HO0.out⟩
  case rest =>
    obtain ⟨m, rfl, hg⟩ := hcut
    have H4 := Lib.hid hg
    clear hg ta ta' tb tb' tc tc' y1 y2 y3 y4 y5 y6 y7 y8 y9 ya hfm1 hfm2 hfm3 hfm5 hbp hwl hwn hdv hdt hwv
    go_upto_region 11 with (go_at_call 27; (with_reducible refine (hA1.out _).mono ?_); rintro x w6 ⟨rfl, hb6⟩; have H5 := Lib.hid (H4.out.below hb6); have f4 := H5.out.free4; clear hb6)
    go_upto_region 12 with (go_at_call 27; (with_reducible refine (hA2.out _).mono ?_); rintro x w7 ⟨rfl, hb7⟩; have H6 := Lib.hid ((H5.out.fr true A1 HL8.out).below hb7); have f21 := H6.out.free21; have h7 := H6.out.to true A2 HL24.out; simp only at h7; rw [HEE.out] at h7; have H7 := Lib.hid h7; clear hb7 h7)
    generalize aggO w7 m 21 _ = W8 at H7 ⊢
    clear f4 f21 H5 H6
    have c2 := H7.out.2.1.ttl
    rw [HT.out] at c2
    have c39 := H7.out.2.1.bd HO1.out
    rw [HBD.out] at c39
    have hr := H7.out.1.row
    have hrm := H7.out.2.1.row HO1.out
    have hf := H7.out.1.free
    go_upto_region 14 with (fail)
    clear hexb hNa hNb e6 e7 i6 i7 hi2 hi4 hi6 hi24 hi40 lqa lra lrb hok12 hok16 hA1 hA2 hfok0 hfok1 HEE HT hq hp0 hi0 hv6 hq3 hN4 hsz c39 hbz HRA HRB HL8 HL24 HO0 HC e0 c2
    by_cases j1 : n < 8
    · have HR := Lib.hid (HRa.out (Or.inl j1))
      have hq8 : decide ((n : Int) < 8) = true := by simp; omega
      clear j1
      go_upto_region 15 with (fail)
      repeat (first | go_values | go_skip | go_guarded | go_step | go_upon | go_in)
      obtain ⟨q1, q2⟩ := H7.out.1.done zeroI zeroI_ok
      exact bodyPost_ret (results_cell2 Try.results15 rfl (ld_some q1 (ldr_iq _ _ _))) rfl ⟨by rw [HR.out]; rfl, q2⟩
    have hq8 : decide ((n : Int) < 8) = false := by simp; omega
    have hj1 : (1 : Int) < (n : Int) := by omega
    have g1 : 1 < (Str BD).size := by rw [hsb]; omega
    have e1 := HX1.out g1
    by_cases j2 : n < 8 * x1 + 8
    · have HR := Lib.hid (HRa.out (Or.inr j2))
      have hq9 : decide ((n : Int) < 8 * (x1 : Int) + 8) = true := by simp; omega
      clear j1 j2
      go_upto_region 15 with (fail)
      repeat (first | go_values | go_skip | go_guarded | go_step | go_upon | go_in)
      obtain ⟨q1, q2⟩ := H7.out.1.done zeroI zeroI_ok
      exact bodyPost_ret (results_cell2 Try.results15 rfl (ld_some q1 (ldr_iq _ _ _))) rfl ⟨by rw [HR.out]; rfl, q2⟩
    have hq9 : decide ((n : Int) < 8 * (x1 : Int) + 8) = false := by simp; omega
    have hs2 : (2 : Int) ≤ 8 * (x1 : Int) + 8 := by omega
    have hs3 : 8 * (x1 : Int) + 8 ≤ (n : Int) := by omega
    go_upto_region 18 with (go_at_call 17; (with_reducible refine (HOP.out _).mono ?_); rintro x w9 ⟨rfl, hw9⟩; subst hw9)
    by_cases j3 : o2 = 0
    · have hq10 : (o2 != 0) = false := by simpa using j3
      have hp0 : 0 < n := by omega
      have hj0 : (0 : Int) < (n : Int) := by omega
      have g0 : 0 < (Str BD).size := by rw [hsb]; omega
      have e0 := HX0.out g0
      by_cases j4 : x0 = 0
      · have HR := Lib.hid (HRc.out (by omega) j3 j4)
        have hq11 : ((x0 : Int) == 0) = true := by simp; omega
        clear j1 j2 j3 j4
        go_upto_region 21 with (fail)
        repeat (first | go_values | go_skip | go_guarded | go_step | go_upon | go_in)
        obtain ⟨q1, q2⟩ := H7.out.1.done zeroI zeroI_ok
        exact bodyPost_ret (results_cell2 Try.results15 rfl (ld_some q1 (ldr_iq _ _ _))) rfl ⟨by rw [HR.out]; rfl, q2⟩
      · have hq11 : ((x0 : Int) == 0) = false := by simp; omega
        go_upto_region 22 with (fail)
        obtain ⟨c2, c38, c39, z2, z38, z39⟩ := H7.out.c
        have hpz : (0 : Int) ≤ 8 * (x1 : Int) + 8 := by omega
        have htn : (8 * (x1 : Int) + 8).toNat = 8 * x1 + 8 := by omega
        clear H0 H4 HX0 HX1 HOP hz6 v6 v7
        refine wp_region_held_drew (S := fun _ => True) (by kernel_rfl) (trivial) (fun hHeld => ?_)
        refine wpAnyH_take (i := 0) (oi := { dst := some 106, op := _, type := _, pos := _, after := _, guard := _ }) (v := ?v101) rfl (by kernel_rfl) (by kernel_rfl) (by kernel_rfl) (fun _ _ _ h => h) (Or.inl ⟨by rfl, ?y101⟩) (by assumption) ?r101
        case y101 => (intro w hSw; go_simp; try with_reducible rfl)
        try simp only [Act.put, List.setIfInBounds_toArray, List.set_cons_zero, List.set_cons_succ]
        refine wpAnyH_take (i := 1) (oi := { dst := some 107, op := _, type := _, pos := _, after := _, guard := _ }) (v := ?v102) rfl (by kernel_rfl) (by kernel_rfl) (by kernel_rfl) (fun _ _ _ h => h) (Or.inl ⟨by rfl, ?y102⟩) (by assumption) ?r102
        case y102 => (intro w hSw; go_simp; try with_reducible rfl)
        try simp only [Act.put, List.setIfInBounds_toArray, List.set_cons_zero, List.set_cons_succ]
        refine wpAnyH_take (i := 2) (oi := { dst := some 108, op := _, type := _, pos := _, after := _, guard := _ }) (v := ?v103) rfl (by kernel_rfl) (by kernel_rfl) (by kernel_rfl) (fun _ _ _ h => h) (Or.inl ⟨by rfl, ?y103⟩) (by assumption) ?r103
        case y103 => (intro w hSw; go_simp; try with_reducible rfl)
        try simp only [Act.put, List.setIfInBounds_toArray, List.set_cons_zero, List.set_cons_succ]
        refine wpAnyH_take (i := 3) (oi := { dst := some 109, op := _, type := _, pos := _, after := _, guard := _ }) (v := ?v104) rfl (by kernel_rfl) (by kernel_rfl) (by kernel_rfl) (fun _ _ _ h => h) (Or.inl ⟨by rfl, ?y104⟩) (by assumption) ?r104
        case y104 => (intro w hSw; go_simp; try with_reducible rfl)
        try simp only [Act.put, List.setIfInBounds_toArray, List.set_cons_zero, List.set_cons_succ]
        refine wpAnyH_take (i := 4) (oi := { dst := some 110, op := _, type := _, pos := _, after := _, guard := _ }) (v := ?v105) rfl (by kernel_rfl) (by kernel_rfl) (by kernel_rfl) (fun _ _ _ h => h) (Or.inl ⟨by rfl, ?y105⟩) (by assumption) ?r105
        case y105 => (intro w hSw; go_simp; try with_reducible rfl)
        try simp only [Act.put, List.setIfInBounds_toArray, List.set_cons_zero, List.set_cons_succ]
        refine wpAnyH_take (i := 5) (oi := { dst := some 111, op := _, type := _, pos := _, after := _, guard := _ }) (v := ?v106) rfl (by kernel_rfl) (by kernel_rfl) (by kernel_rfl) (fun _ _ _ h => h) (Or.inl ⟨by rfl, ?y106⟩) (by assumption) ?r106
        case y106 => (intro w hSw; go_simp; try with_reducible rfl)
        try simp only [Act.put, List.setIfInBounds_toArray, List.set_cons_zero, List.set_cons_succ]
        refine wpAnyH_take (i := 6) (oi := { dst := some 112, op := _, type := _, pos := _, after := _, guard := _ }) (v := ?v107) rfl (by kernel_rfl) (by kernel_rfl) (by kernel_rfl) (fun _ _ _ h => h) (Or.inl ⟨by rfl, ?y107⟩) (by assumption) ?r107
        case y107 => (intro w hSw; go_simp; try with_reducible rfl)
        try simp only [Act.put, List.setIfInBounds_toArray, List.set_cons_zero, List.set_cons_succ]
        refine wpAnyH_take (i := 7) (oi := { dst := some 113, op := _, type := _, pos := _, after := _, guard := _ }) (v := ?v108) rfl (by kernel_rfl) (by kernel_rfl) (by kernel_rfl) (fun _ _ _ h => h) (Or.inl ⟨by rfl, ?y108⟩) (by assumption) ?r108
        case y108 => (intro w hSw; go_simp; try with_reducible rfl)
        try simp only [Act.put, List.setIfInBounds_toArray, List.set_cons_zero, List.set_cons_succ]
        refine wpAnyH_ready (rs := [8]) (by kernel_rfl) (by simp) (AllReadyH.cons (o := _) rfl (fun K hK => ?_) AllReadyH.nil)
        go_simp
        refine hK.out _ _ (trivial) (fun hHeld => ?_)
        clear hK K
        try simp only [Act.put, List.setIfInBounds_toArray, List.set_cons_zero, List.set_cons_succ]
        refine wpAnyH_take (i := 9) (oi := { dst := some 114, op := _, type := _, pos := _, after := _, guard := _ }) (v := ?v109) rfl (by kernel_rfl) (by kernel_rfl) (by kernel_rfl) (fun _ _ _ h => h) (Or.inl ⟨by rfl, ?y109⟩) (by assumption) ?r109
        case y109 => (intro w hSw; go_simp; try with_reducible rfl)
        try simp only [Act.put, List.setIfInBounds_toArray, List.set_cons_zero, List.set_cons_succ]
        refine wpAnyH_ready (rs := [10]) (by kernel_rfl) (by simp) (AllReadyH.cons (o := _) rfl (fun K hK => ?_) AllReadyH.nil)
        go_simp
        refine hK.out _ _ (trivial) (fun hHeld => ?_)
        clear hK K
        try simp only [Act.put, List.setIfInBounds_toArray, List.set_cons_zero, List.set_cons_succ]
        refine wpAnyH_take (i := 11) (oi := { dst := some 115, op := _, type := _, pos := _, after := _, guard := _ }) (v := ?v110) rfl (by kernel_rfl) (by kernel_rfl) (by kernel_rfl) (fun _ _ _ h => h) (Or.inl ⟨by rfl, ?y110⟩) (by assumption) ?r110
        case y110 => (intro w hSw; go_simp; try with_reducible rfl)
        try simp only [Act.put, List.setIfInBounds_toArray, List.set_cons_zero, List.set_cons_succ]
        refine wpAnyH_ready (rs := [12]) (by kernel_rfl) (by simp) (AllReadyH.cons (o := _) rfl (fun K hK => ?_) AllReadyH.nil)
        go_simp
        refine hK.out _ _ (trivial) (fun hHeld => ?_)
        clear hK K
        try simp only [Act.put, List.setIfInBounds_toArray, List.set_cons_zero, List.set_cons_succ]
        refine wpAnyH_done (by kernel_rfl) ?_ _
        have h8 := (H7.out.three (x0 : Int) o1 DD 0).drewN 1
        rw [HE2.out] at h8
        have H8 : Hid (QG w (((w9.setCell ⟨m, 2, none⟩ (.int .i64 (x0 : Int))).setCell ⟨m, 38, none⟩ (.bool o1)).setCell ⟨m, 39, none⟩ (.string (Str DD))).drew m E2) := Lib.hid h8
        clear h8
        generalize (((w9.setCell ⟨m, 2, none⟩ (.int .i64 (x0 : Int))).setCell ⟨m, 38, none⟩ (.bool o1)).setCell ⟨m, 39, none⟩ (.string (Str DD))).drew = W9 at H8 ⊢
        clear c2 c38 c39 z2 z38 z39 hr hrm hf hexd e0 e1 hq8 hq9 hq10 hq11 hs2 hs3 hpz htn
        have c39 := H8.out.2.1.bd HO2.out
        rw [HB2.out] at c39
        have hr := H8.out.1.row
        have hrm := H8.out.2.1.row HO2.out
        have hf := H8.out.1.free
        obtain ⟨k, hk⟩ : ∃ k, k = n - (8 * x1 + 8) := ⟨_, rfl⟩
        rw [← hk] at hsd
        by_cases j5 : 1400 < k
        · have HR := Lib.hid (HRd.out (by omega) j3 j4 (by omega))
          have hq12 : decide ((1400 : Int) < (k : Int)) = true := by simp; omega
          clear j1 j2 j3 j4 j5 hk
          go_upto_region 24 with (fail)
          repeat (first | go_values | go_skip | go_guarded | go_step | go_upon | go_in)
          obtain ⟨q1, q2⟩ := H8.out.1.done zeroI zeroI_ok
          exact bodyPost_ret (results_cell2 Try.results15 rfl (ld_some q1 (ldr_iq _ _ _))) rfl ⟨by rw [HR.out]; rfl, q2⟩
        · have HR := Lib.hid ((HRe.out (by omega) j3 j4 (by omega)).trans (congrArg (fun q => (q, (0 : Int))) HIQ.out))
          have hq12 : decide ((1400 : Int) < (k : Int)) = false := by simp; omega
          clear j1 j2 j3 j4 j5 hk
          go_upto_region 25 with (fail)
          repeat (first | go_values | go_skip | go_guarded | go_step | go_upon | go_in)
          obtain ⟨q1, q2⟩ := H8.out.1.done E2 HO2.out
          exact bodyPost_ret (results_cell2 Try.results15 rfl (ld_some q1 (ldr_iq _ _ _))) rfl ⟨by rw [HR.out]; rfl, q2⟩
    · have hq10 : (o2 != 0) = true := by simpa using j3
      have HR := Lib.hid (HRb.out (by omega) j3)
      clear j1 j2 j3
      go_upto_region 19 with (fail)
      repeat (first | go_values | go_skip | go_guarded | go_step | go_upon | go_in)
      obtain ⟨q1, q2⟩ := H7.out.1.done zeroI zeroI_ok
      exact bodyPost_ret (results_cell2 Try.results15 rfl (ld_some q1 (ldr_iq _ _ _))) rfl ⟨by rw [HR.out]; rfl, q2⟩

theorem rread6_any (s : List UInt8) (hs : s.length ≤ 100000) (w : World) :
    Calls Try.prog 15 #[.string (Str s)] w fun x w' => x = .returned (.tuple #[.agg (ipC (readV6 s).1).toArray, .int .i64 (readV6 s).2]) ∧ Below w.heap.size w w' := by
  by_cases h1 : s.length < 40
  · exact rread6_short s hs h1 w
  by_cases h2 : by8 s 0 / 16 ≠ 6
  · exact rread6_kind s hs h1 h2 w
  by_cases h3 : s.length < wd s 4 + 40
  · exact rread6_end s hs h1 h2 h3 w
  by_cases h4 : by8 s 6 = 0
  · exact rread6_opt s hs h1 h2 h3 h4 w
  by_cases h5 : 1400 < wd s 4
  · exact rread6_nolong s hs h1 h2 h3 h4 h5 w
  · exact rread6_nogood s hs h1 h2 h3 h4 h5 w
end Go.Proofs.Ytkmnnkklbgnfpaa
