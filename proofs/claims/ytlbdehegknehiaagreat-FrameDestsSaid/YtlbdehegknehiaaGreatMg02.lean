/-
  Texts joined: Rcs, Tk, Oct, PureHex, OctHex, Ad1, Ad2.
-/
import Derived.Test.YtlbdehegknehiaaGreatMg01
import Derived.Test.YtlbdehegknehiaaGreatMg00
import Derived.Test.YtlbdehegknehiaaGreatChecked
import Derived.WalkLawsBesides
import Derived.WalkSpells
import Derived.BigQuiet
import Derived.Deep.QuietTactic
import Derived.LoopTactic
import Derived.Deep.RegionLaw
import Derived.Deep.AppendLies
import Derived.Deep.RegionHeld3
import Derived.Laws.Cover3
import Derived.Deep.Cut
import Derived.Lib.Hide
/- A part of the proof. -/
namespace Go.Proofs.YtlbdehegknehiaaGreat
open Go.RowKit
set_option linter.unusedVariables false
structure RC where
  kind : Int
  g : AD
  src : List AD
  deriving DecidableEq
def rcC (r : RC) (u : Value) : List Value := .int .i64 r.kind :: (adC r.g ++ [u])
theorem rcC_length {r : RC} (h : adOk r.g) (u : Value) : (rcC r u).length = 19 := by unfold rcC; simp [adC_length h]
def RcAt (w : World) (b o : Nat) (r : RC) : Prop := adOk r.g ∧ b < w.heap.size ∧ ∃ u, row? w b o 19 = some (rcC r u) ∧ Ads w u r.src
theorem RcAt.below {w w' : World} {b o : Nat} {r : RC} (h : RcAt w b o r) (hb : Below w.heap.size w w') : RcAt w' b o r := by
  obtain ⟨h1, h2, u, h3, h4⟩ := h
  exact ⟨h1, Nat.lt_of_lt_of_le h2 hb.size, u, row?_below h3 h2 hb, h4.below hb⟩
theorem RcAt.parts {w : World} {b o : Nat} {r : RC} (h : RcAt w b o r) : ∃ u, w.cell? ⟨b, o, none⟩ = some (.int .i64 r.kind) ∧ row? w b (o + 1) 17 = some (adC r.g) ∧ w.cell? ⟨b, o + 18, none⟩ = some u ∧ Ads w u r.src ∧ row? w b o 19 = some (rcC r u) := by
  obtain ⟨h1, h2, u, h3, h4⟩ := h
  obtain ⟨h5, h6⟩ := rangeAt_of_row? h3
  have hl := adC_length h1
  refine ⟨u, h5 0 _ rfl, ?_, ?_, h4, h3⟩
  · have hr : w.rangeAt b (o + 1) (adC r.g) := fun j v hv => by
      have hj := (List.getElem?_eq_some_iff.1 hv).1
      have := h5 (1 + j) v (by
        unfold rcC
        rw [Nat.add_comm 1 j, List.getElem?_cons_succ, List.getElem?_append_left hj]
        exact hv)
      rw [← Nat.add_assoc] at this
      exact this
    have := row?_of hr
    rw [hl] at this
    exact this
  · exact h5 18 u (by
      unfold rcC
      rw [show (18 : Nat) = 17 + 1 from rfl, List.getElem?_cons_succ, List.getElem?_append_right (by omega), hl]
      rfl)
def Rcs (w : World) (v : Value) (l : List RC) : Prop :=
  ∃ (p : Option Addr) (cap : Nat), v = .slice p l.length cap ∧ l.length ≤ cap ∧ cap ≤ maxLen ∧
    (l ≠ [] → ∃ b o, p = some ⟨b, o, none⟩ ∧ ∀ i (h : i < l.length), RcAt w b (o + i * 19) l[i])
theorem Rcs.below {w w' : World} {v : Value} {l : List RC} (h : Rcs w v l) (hb : Below w.heap.size w w') : Rcs w' v l := by
  obtain ⟨p, cap, h1, h2, h3, h5⟩ := h
  refine ⟨p, cap, h1, h2, h3, fun hn => ?_⟩
  obtain ⟨b, o, e1, e3⟩ := h5 hn
  exact ⟨b, o, e1, fun i h => (e3 i h).below hb⟩
theorem Rcs.nil (w : World) : Rcs w (.slice none 0 0) [] := ⟨none, 0, rfl, Nat.le_refl _, by unfold maxLen; omega, fun h => absurd rfl h⟩
theorem Rcs.parts {w : World} {v : Value} {l : List RC} (h : Rcs w v l) (hn : l ≠ []) : ∃ b o cap, v = .slice (some ⟨b, o, none⟩) l.length cap ∧ l.length ≤ cap ∧ cap ≤ maxLen ∧ ∀ i (h : i < l.length), RcAt w b (o + i * 19) l[i] := by
  obtain ⟨p, cap, h1, h2, h3, h5⟩ := h
  obtain ⟨b, o, rfl, e3⟩ := h5 hn
  exact ⟨b, o, cap, h1, h2, h3, e3⟩
theorem Rcs.len {w : World} {v : Value} {l : List RC} (h : Rcs w v l) : ∃ p cap, v = .slice p l.length cap ∧ l.length ≤ cap ∧ cap ≤ maxLen := by obtain ⟨p, cap, h1, h2, h3, h5⟩ := h; exact ⟨p, cap, h1, h2, h3⟩
def recS : Shape (Int × ((Bool × (List UInt8 × Unit)) × (List (Bool × (List UInt8 × Unit)) × Unit))) := pairS 1 (intS .i64) (pairS 17 addrS (pairS 1 (sliceS 17 addrS) unitS))
def rcOf (x : Int × ((Bool × (List UInt8 × Unit)) × (List (Bool × (List UInt8 × Unit)) × Unit))) : RC := ⟨x.1, adOf x.2.1, x.2.2.1.map adOf⟩
theorem opens_recS : Opens Tryz.prog 109 recS :=
  opens_struct Tryz.underlying109 (opens_cons rfl (by kernel_rfl) (of_decide_eq_true (by kernel_rfl)) (opens_int Tryz.underlying3)
    (opens_cons rfl (by kernel_rfl) (of_decide_eq_true (by kernel_rfl)) opens_addrS
    (opens_cons rfl (by kernel_rfl) (of_decide_eq_true (by kernel_rfl)) (opens_slice Tryz.underlying25 (by kernel_rfl) (by omega) opens_addrS) (opens_nil (by kernel_rfl)))))
theorem recS_cells {w : World} {cs : List Value} {x : _} (h : recS w cs x) : adOk (rcOf x).g ∧ ∃ u, cs = rcC (rcOf x) u ∧ Ads w u (rcOf x).src := by
  obtain ⟨c0, d0, rfl, _, h0, c1, d1, rfl, _, h1, c2, d2, rfl, l2, h2, h3⟩ := h
  obtain ⟨e0, _⟩ := h0
  obtain ⟨e1, k1⟩ := addrS_cells h1
  have e3 : d2 = [] := h3
  obtain ⟨u, rfl⟩ : ∃ u, c2 = [u] := by
    match c2, l2 with
    | [u], _ => exact ⟨u, rfl⟩
  subst e0 e1 e3
  exact ⟨k1, u, by simp [rcC, rcOf, adC, adOf], Ads.of h2⟩
theorem Rcs.of {w : World} {v : Value} {xs : List (Int × ((Bool × (List UInt8 × Unit)) × (List (Bool × (List UInt8 × Unit)) × Unit)))} (h : sliceS 19 recS w [v] xs) : Rcs w v (xs.map rcOf) := by
  rcases h with ⟨h1, h2⟩ | ⟨a, cap, h1, h2, h3, h4, h5⟩
  · simp at h1
    subst h1 h2
    exact Rcs.nil w
  · simp at h1
    subst h1
    refine ⟨some a, cap, by simp, by simpa using h2, h3, fun hn => ?_⟩
    have hx : xs ≠ [] := by rintro rfl; exact hn rfl
    obtain ⟨q1, q2⟩ := h4 hx
    obtain ⟨ab, ao, as_⟩ := a
    simp only at q1 q2
    subst q1
    refine ⟨ab, ao, rfl, fun i hi => ?_⟩
    simp at hi
    obtain ⟨c, e1, e2, e3⟩ := h5 i xs[i] (List.getElem?_eq_getElem hi)
    obtain ⟨f1, u, f2, f3⟩ := recS_cells e3
    rw [List.getElem_map]
    refine ⟨f1, q2, u, ?_, f3⟩
    rw [← f2]
    have hr : w.rangeAt ab (ao + i * 19) c := fun j v hv => by
      have hj := (List.getElem?_eq_some_iff.1 hv).1
      rw [Nat.add_assoc, e2 j (by omega)]; exact hv
    have := row?_of hr
    rw [e1] at this
    exact this
theorem Ads.drewN {w : World} {v : Value} {l : List AD} (h : Ads w v l) (d : Nat) : Ads (w.drewN d) v l := h.below (bdrewN (Below.refl _ _) d)
attribute [local go_sem ↓] ld_addr
attribute [local go_sem] ldr_addr row?_drewN_eq row?_drew_eq
end Go.Proofs.YtlbdehegknehiaaGreat

/- A part of the proof. -/
namespace Go.Proofs.YtlbdehegknehiaaGreat
open Go.RowKit
set_option linter.unusedVariables false
structure TK where
  v6 : Bool
  ver : Int
  kind : Int
  resp : Int
  g : AD
  quiet : Bool
  rob : Int
  every : Int
  src : List AD
  rcs : List RC
  deriving DecidableEq
def tkC (t : TK) (us ur : Value) : List Value := [.bool t.v6, .int .i64 t.ver, .int .i64 t.kind, .int .i64 t.resp] ++ (adC t.g ++ [.bool t.quiet, .int .i64 t.rob, .int .i64 t.every, us, ur])
theorem tkC_length {t : TK} (h : adOk t.g) (us ur : Value) : (tkC t us ur).length = 26 := by unfold tkC; simp [adC_length h]
theorem obj_rowk {w : World} {b o n : Nat} {A M C : List Value} {t : TypeId} (h : ObjAt w b (A ++ (M ++ C)).toArray t) (ho : A.length = o) (hn : M.length = n) : row? w b o n = some M := obj_row h ho hn
def TkAt (W : World) (b : Nat) (t : TK) (us ur : Value) : Prop := ObjAt W b (tkC t us ur).toArray 28 ∧ adOk t.g
theorem TkAt.n {W : World} {b : Nat} {t : TK} {us ur : Value} (h : TkAt W b t us ur) (j : Nat) (x : Value) (hx : [Value.bool t.v6, .int .i64 t.ver, .int .i64 t.kind, .int .i64 t.resp][j]? = some x) : W.cell? ⟨b, j, none⟩ = some x := by
  have hj : j < 4 := (List.getElem?_eq_some_iff.1 hx).1
  rw [ObjAt.cell h.1, List.getElem?_toArray]
  unfold tkC
  rw [List.getElem?_append_left hj]
  exact hx
theorem TkAt.e {W : World} {b : Nat} {t : TK} {us ur : Value} (h : TkAt W b t us ur) (j : Nat) (x : Value) (hx : [Value.bool t.quiet, .int .i64 t.rob, .int .i64 t.every, us, ur][j]? = some x) : W.cell? ⟨b, 21 + j, none⟩ = some x := by
  rw [ObjAt.cell h.1, List.getElem?_toArray]
  unfold tkC
  rw [List.getElem?_append_right (by simp; omega), List.getElem?_append_right (by simp [adC_length h.2]; omega)]
  simp only [List.length_cons, List.length_nil, adC_length h.2]
  rw [show 21 + j - (0 + 1 + 1 + 1 + 1) - 17 = j by omega]
  exact hx
theorem TkAt.v6 {W : World} {b : Nat} {t : TK} {us ur : Value} (h : TkAt W b t us ur) : W.cell? ⟨b, 0, none⟩ = some (.bool t.v6) := h.n 0 _ rfl
theorem TkAt.ver {W : World} {b : Nat} {t : TK} {us ur : Value} (h : TkAt W b t us ur) : W.cell? ⟨b, 1, none⟩ = some (.int .i64 t.ver) := h.n 1 _ rfl
theorem TkAt.kind {W : World} {b : Nat} {t : TK} {us ur : Value} (h : TkAt W b t us ur) : W.cell? ⟨b, 2, none⟩ = some (.int .i64 t.kind) := h.n 2 _ rfl
theorem TkAt.resp {W : World} {b : Nat} {t : TK} {us ur : Value} (h : TkAt W b t us ur) : W.cell? ⟨b, 3, none⟩ = some (.int .i64 t.resp) := h.n 3 _ rfl
theorem TkAt.quiet {W : World} {b : Nat} {t : TK} {us ur : Value} (h : TkAt W b t us ur) : W.cell? ⟨b, 21, none⟩ = some (.bool t.quiet) := h.e 0 _ rfl
theorem TkAt.rob {W : World} {b : Nat} {t : TK} {us ur : Value} (h : TkAt W b t us ur) : W.cell? ⟨b, 22, none⟩ = some (.int .i64 t.rob) := h.e 1 _ rfl
theorem TkAt.every {W : World} {b : Nat} {t : TK} {us ur : Value} (h : TkAt W b t us ur) : W.cell? ⟨b, 23, none⟩ = some (.int .i64 t.every) := h.e 2 _ rfl
theorem TkAt.us {W : World} {b : Nat} {t : TK} {us ur : Value} (h : TkAt W b t us ur) : W.cell? ⟨b, 24, none⟩ = some us := h.e 3 _ rfl
theorem TkAt.ur {W : World} {b : Nat} {t : TK} {us ur : Value} (h : TkAt W b t us ur) : W.cell? ⟨b, 25, none⟩ = some ur := h.e 4 _ rfl
theorem TkAt.rg {W : World} {b : Nat} {t : TK} {us ur : Value} (h : TkAt W b t us ur) : row? W b 4 17 = some (adC t.g) :=
  obj_rowk (A := [.bool t.v6, .int .i64 t.ver, .int .i64 t.kind, .int .i64 t.resp]) (M := adC t.g) (C := [.bool t.quiet, .int .i64 t.rob, .int .i64 t.every, us, ur]) (by simpa [tkC] using h.1) rfl (adC_length h.2)
theorem TkAt.row {W : World} {b : Nat} {t : TK} {us ur : Value} (h : TkAt W b t us ur) : row? W b 0 26 = some (tkC t us ur) :=
  obj_rowk (A := []) (M := tkC t us ur) (C := []) (by simpa using h.1) rfl (tkC_length h.2 _ _)
theorem TkAt.below {W W' : World} {b : Nat} {t : TK} {us ur : Value} (h : TkAt W b t us ur) (hb : Below W.heap.size W W') : TkAt W' b t us ur := ⟨ObjAt.below h.1 hb h.1.lt, h.2⟩
theorem TkAt.made (w : World) (t : TK) (us ur : Value) (h : adOk t.g) : TkAt (w.alloc (.cells (tkC t us ur).toArray 28)) w.heap.size t us ur := ⟨ObjAt.made w _ _, h⟩
def Tks (w : World) (cs : List Value) (t : TK) : Prop := adOk t.g ∧ ∃ us ur, cs = tkC t us ur ∧ Ads w us t.src ∧ Rcs w ur t.rcs
theorem Tks.below {w w' : World} {cs : List Value} {t : TK} (h : Tks w cs t) (hb : Below w.heap.size w w') : Tks w' cs t := by
  obtain ⟨h1, us, ur, h2, h3, h4⟩ := h
  exact ⟨h1, us, ur, h2, h3.below hb, h4.below hb⟩
def talkS := pairS 1 boolS (pairS 1 (intS .i64) (pairS 1 (intS .i64) (pairS 1 (intS .i64) (pairS 17 addrS (pairS 1 boolS (pairS 1 (intS .i64) (pairS 1 (intS .i64) (pairS 1 (sliceS 17 addrS) (pairS 1 (sliceS 19 recS) unitS)))))))))
theorem opens_talkS : Opens Tryz.prog 28 talkS :=
  opens_struct Tryz.underlying28 (opens_cons rfl (by kernel_rfl) (of_decide_eq_true (by kernel_rfl)) (opens_bool Tryz.underlying4)
    (opens_cons rfl (by kernel_rfl) (of_decide_eq_true (by kernel_rfl)) (opens_int Tryz.underlying3)
    (opens_cons rfl (by kernel_rfl) (of_decide_eq_true (by kernel_rfl)) (opens_int Tryz.underlying3)
    (opens_cons rfl (by kernel_rfl) (of_decide_eq_true (by kernel_rfl)) (opens_int Tryz.underlying3)
    (opens_cons rfl (by kernel_rfl) (of_decide_eq_true (by kernel_rfl)) opens_addrS
    (opens_cons rfl (by kernel_rfl) (of_decide_eq_true (by kernel_rfl)) (opens_bool Tryz.underlying4)
    (opens_cons rfl (by kernel_rfl) (of_decide_eq_true (by kernel_rfl)) (opens_int Tryz.underlying3)
    (opens_cons rfl (by kernel_rfl) (of_decide_eq_true (by kernel_rfl)) (opens_int Tryz.underlying3)
    (opens_cons rfl (by kernel_rfl) (of_decide_eq_true (by kernel_rfl)) (opens_slice Tryz.underlying25 (by kernel_rfl) (by omega) opens_addrS)
    (opens_cons rfl (by kernel_rfl) (of_decide_eq_true (by kernel_rfl)) (opens_slice Tryz.underlying26 (by kernel_rfl) (by omega) opens_recS)
    (opens_nil (by kernel_rfl))))))))))))
theorem talkS_cells {w : World} {cs : List Value} {x : _} (h : talkS w cs x) : ∃ t : TK, Tks w cs t := by
  obtain ⟨c0, d0, rfl, _, h0, c1, d1, rfl, _, h1, c2, d2, rfl, _, h2, c3, d3, rfl, _, h3, c4, d4, rfl, _, h4, c5, d5, rfl, _, h5, c6, d6, rfl, _, h6, c7, d7, rfl, _, h7, c8, d8, rfl, l8, h8, c9, d9, rfl, l9, h9, ha⟩ := h
  have e0 : c0 = [.bool _] := h0
  obtain ⟨e1, _⟩ := h1
  obtain ⟨e2, _⟩ := h2
  obtain ⟨e3, _⟩ := h3
  obtain ⟨e4, l4⟩ := addrS_cells h4
  have e5 : c5 = [.bool _] := h5
  obtain ⟨e6, _⟩ := h6
  obtain ⟨e7, _⟩ := h7
  have ea : d9 = [] := ha
  obtain ⟨u, rfl⟩ : ∃ u, c8 = [u] := by
    match c8, l8 with
    | [u], _ => exact ⟨u, rfl⟩
  obtain ⟨v, rfl⟩ : ∃ v, c9 = [v] := by
    match c9, l9 with
    | [v], _ => exact ⟨v, rfl⟩
  subst e0 e1 e2 e3 e4 e5 e6 e7 ea
  exact ⟨⟨x.1, x.2.1, x.2.2.1, x.2.2.2.1, adOf x.2.2.2.2.1, x.2.2.2.2.2.1, x.2.2.2.2.2.2.1, x.2.2.2.2.2.2.2.1, _, _⟩, l4, u, v, by simp [tkC, adC, adOf], Ads.of h8, Rcs.of h9⟩
def T2 (w W : World) (a b : TK) (ua va ub vb : Value) : Prop := TkAt W w.heap.size a ua va ∧ TkAt W (w.heap.size + 1) b ub vb ∧ Below w.heap.size w W
theorem T2.made (w : World) (a b : TK) (ua va ub vb : Value) (ha : adOk a.g) (hb : adOk b.g) : T2 w ((w.alloc (.cells (tkC a ua va).toArray 28)).alloc (.cells (tkC b ub vb).toArray 28)) a b ua va ub vb := by
  have s1 : (w.alloc (.cells (tkC a ua va).toArray 28)).heap.size = w.heap.size + 1 := by simp
  refine ⟨⟨ObjAt.alloc (TkAt.made w a ua va ha).1 _, ha⟩, ?_, ((Below.refl _ _).alloc (Nat.le_refl _) _).alloc (by simp) _⟩
  have := TkAt.made (w.alloc (.cells (tkC a ua va).toArray 28)) b ub vb hb
  rw [s1] at this
  exact this
attribute [local go_sem ↓] ld_addr
attribute [local go_sem] ldr_addr
end Go.Proofs.YtlbdehegknehiaaGreat

/- A part of the proof. -/
namespace Go.Proofs.YtlbdehegknehiaaGreat
set_option maxRecDepth 100000
set_option maxHeartbeats 400000
open Go.RowKit
set_option linter.unusedVariables false
theorem clamp_any (n : Int) (m : Nat) (w : World) : Calls Tryz.prog 161 #[.int .i64 n, .int .i64 (m : Int)] w fun e w' => e = .returned (.int .i64 (clampN n m : Int)) ∧ w = w' := by
  go_enter Tryz.func161, Tryz.ntmps161
  go_wp2
  all_goals
    go_ret
    exact ⟨ret_int (by unfold clampN; split <;> split at * <;> omega), rfl⟩
theorem number_any (s : ByteArray) (hs : s.size ≤ maxLen) (w : World) : Calls Tryz.prog 163 #[.string s] w fun e w' => e = .returned (.int .u64 (num s.data.toList)) ∧ w = w' := by
  unfold maxLen at hs
  go_enter Tryz.func163, Tryz.ntmps163
  go_wp2
  go_loop [3, 7] (fun n i => ∃ k : Nat, k ≤ s.size ∧ i = .int .i64 k ∧ n = .int .u64 (num (s.data.toList.take k))) (fun _ i => s.size - (intOf i).toNat)
  case atStart => exact ⟨0, Nat.zero_le _, rfl, rfl⟩
  case round =>
    obtain ⟨k, hk, rfl, rfl⟩ := hrel
    by_cases hlt : k < s.size
    · have Hs := zh (take_snoc s k hlt)
      generalize hm : num (s.data.toList.take k) = m
      have Hm := zh hm; clear hm
      go_wp2
      go_round
      case rel => exact ⟨k + 1, by omega, by go_num, by rw [shl8_or, Hs.out, num_snoc, Hm.out]⟩
      case measure => simp [intOf]; omega
    · go_wp2
      go_ret
      exact ⟨ret_int (by rw [List.take_of_length_le (by simp; omega)]), rfl⟩
theorem Tryz.info_u8 : (Tryz.prog.info? 5).map (fun i => (i.zero, i.size, i.bytes)) = some (some (.int .u8 0), 1, 1) := by kernel_rfl
theorem byte_of (n i : Nat) : (n : Int) / 2 ^ (8 * i) % 256 = (((UInt8.ofNat (n / 256 ^ i)).toNat : Nat) : Int) := by
  rw [UInt8.toNat_ofNat', show (2 : Int) ^ (8 * i) = ((256 ^ i : Nat) : Int) by rw [Int.pow_mul]; simp, ← Int.natCast_ediv]
  omega
theorem put_any (n : Nat) (hn : n < 18446744073709551616) (wide : Int) (w : World) : Calls Tryz.prog 73 #[.int .u64 n, .int .i64 wide] w fun e w' => e = .returned (.string (Str (putL n (clampN wide 8)))) ∧ Below w.heap.size w w' := by
  have Hn := zh hn; clear hn
  obtain ⟨i0, hi, hz0, hz1, hz2⟩ := info_parts Tryz.info_u8
  generalize hW : clampN wide 8 = W
  have hW8 : W ≤ 8 := by rw [← hW]; exact clampN_le _ _
  have HW := zh hW; clear hW
  go_enter Tryz.func73, Tryz.ntmps73
  go_wp2_with fail
  refine (clamp_any wide 8 _).mono ?_
  rintro e w1 ⟨rfl, rfl⟩
  rw [HW.out]
  go_wp2_with (at_make; refine wpList_make_full _ rfl _ _ 94 rfl w.heap.size 5 i0 (.int .u8 0) 1 Tryz.underlying94 hi hz0 hz1 .i64 .i64 _ _ W rfl rfl rfl rfl ?c1 ?c2 ?c3 ?_)
  case c1 => rw [hz2]; omega
  case c2 => unfold maxLen; omega
  case c3 => exact Nat.le_refl _
  intro w1 hown hgrow
  rw [toList_madeCells_one] at hown
  have hbel : Below w.heap.size w w1 := (Below.refl _ _).grown hgrow (Nat.le_refl _) (fun k h => by cases h)
  clear hgrow
  go_wp2
  go_loopw [12] (fun i wr => ∃ k : Nat, k ≤ W ∧ i = .int .i64 k ∧ wr.ownsRow w.heap.size 5 1 (.slice (some ⟨w.heap.size, 0, none⟩) W W) W (B8 (List.replicate (W - k) 0 ++ putL n k)) ∧ Below w.heap.size w wr) (fun i _ => W - (intOf i).toNat)
  case atStart => exact ⟨0, Nat.zero_le _, rfl, by simpa [putL, B8_replicate] using hown, hbel⟩
  case round =>
    obtain ⟨k, hk, rfl, hown, hbel⟩ := hrel
    by_cases hlt : k < W
    · have hc := hown.cellAt (W - 1 - k) (by omega)
      have hf := hown.frozenAt (W - 1 - k)
      obtain ⟨c, hcc⟩ : ∃ c, (B8 (List.replicate (W - k) 0 ++ putL n k))[W - 1 - k]? = some c := by
        have : W - 1 - k < (B8 (List.replicate (W - k) 0 ++ putL n k)).length := by simp [B8_length, putL_length]; omega
        exact ⟨_, List.getElem?_eq_getElem this⟩
      rw [hcc] at hc
      clear hcc
      have Hs := zh (hown.stored (W - 1 - k) (.int .u8 ((UInt8.ofNat (n / 256 ^ k)).toNat : Int)))
      have Hb := zh (byte_of n k)
      have Hbel := zh hbel
      have Hc := zh hc
      clear hown hbel
      go_wp2
      go_roundw
      case rel =>
        refine ⟨k + 1, by omega, by go_num, ?_, Hbel.out.setCell (by simp) _⟩
        rw [Hb.out]
        have h := Hs.out.1
        rw [B8_set] at h
        have e : (List.replicate (W - k) 0 ++ putL n k).set (W - 1 - k) (UInt8.ofNat (n / 256 ^ k)) = List.replicate (W - (k + 1)) 0 ++ putL n (k + 1) := by
          have e1 : W - k = (W - (k + 1)) + 1 := by omega
          rw [e1, List.replicate_succ', List.append_assoc, List.set_append_right _ _ (by simp; omega)]
          simp [putL, show W - 1 - k - (W - (k + 1)) = 0 by omega]
        rw [e] at h
        exact h
      case measure => simp [intOf]; omega
    · obtain rfl : k = W := by omega
      have hcv := run_string_own 94 9 5 Tryz.underlying94 Tryz.underlying5 Tryz.underlying9 hown
      go_wp2
      go_ret
      exact ⟨by simp, hbel⟩
end Go.Proofs.YtlbdehegknehiaaGreat

/- A part of the proof. -/
namespace Go.Proofs.YtlbdehegknehiaaGreat
open Go.RowKit
set_option linter.unusedVariables false
theorem Str_append (l m : List UInt8) : Str l ++ Str m = Str (l ++ m) := by
  apply ByteArray.ext; simp [Str]
theorem run_cat {P : Program} (x y : List UInt8) (h : x.length + y.length ≤ 9223372036854775807) (w : World) : (Op.stringOp .add (Str x) (Str y)).run P w = .ok (.string (Str (x ++ y))) w := by
  rw [run_string_add_sum w _ _ (by rw [Str_size, Str_size]; exact h), Str_append]
end Go.Proofs.YtlbdehegknehiaaGreat

/- A part of the proof. -/
namespace Go.Proofs.YtlbdehegknehiaaGreat
open Go.RowKit
set_option linter.unusedVariables false
theorem bits_and_u8_nat (a b : Nat) (ha : a < 256) (hb : b < 256) : bits .and .u8 (a : Int) (b : Int) = ((a &&& b : Nat) : Int) := by
  have hx : a &&& b ≤ a := Nat.and_le_left
  have h1 : (BitVec.ofInt 8 (a : Int)).toNat = a := by
    rw [BitVec.ofInt_natCast, BitVec.toNat_ofNat]; exact Nat.mod_eq_of_lt (by omega)
  have h2 : (BitVec.ofInt 8 (b : Int)).toNat = b := by
    rw [BitVec.ofInt_natCast, BitVec.toNat_ofNat]; exact Nat.mod_eq_of_lt (by omega)
  show IntKind.u8.wrap ((BitVec.ofInt 8 (a : Int) &&& BitVec.ofInt 8 (b : Int)).toNat : Int) = _
  rw [BitVec.toNat_and, h1, h2, IntKind.wrap_u8]
  omega
theorem and15 (a : Nat) (ha : a < 256) : bits .and .u8 (a : Int) 15 = (a : Int) % 16 := by
  have h := bits_and_u8_nat a 15 ha (by omega)
  rw [show ((15 : Nat) : Int) = 15 from rfl] at h
  rw [h, show (15 : Nat) = 2 ^ 4 - 1 from rfl, Nat.and_two_pow_sub_one_eq_mod]; rfl
end Go.Proofs.YtlbdehegknehiaaGreat

/- A part of the proof. -/
namespace Go.Proofs.YtlbdehegknehiaaGreat
set_option maxRecDepth 100000
set_option maxHeartbeats 1000000
open Go.RowKit
set_option linter.unusedVariables false
theorem list16 {l : List UInt8} (h : l.length = 16) : ∃ b0 b1 b2 b3 b4 b5 b6 b7 b8 b9 ba bb bc bd be bf, l = [b0, b1, b2, b3, b4, b5, b6, b7, b8, b9, ba, bb, bc, bd, be, bf] := by
  match l, h with
  | [b0, b1, b2, b3, b4, b5, b6, b7, b8, b9, ba, bb, bc, bd, be, bf], _ => exact ⟨b0, b1, b2, b3, b4, b5, b6, b7, b8, b9, ba, bb, bc, bd, be, bf, rfl⟩
theorem list6 {l : List UInt8} (h : l.length = 6) : ∃ b0 b1 b2 b3 b4 b5, l = [b0, b1, b2, b3, b4, b5] := by
  match l, h with
  | [b0, b1, b2, b3, b4, b5], _ => exact ⟨b0, b1, b2, b3, b4, b5, rfl⟩
def bN (l : List UInt8) (i : Nat) : Int := ((l.getD i 0).toNat : Int)
def grpV (v : Bool) (l : List UInt8) : Bool := if v then (bN l 0 == 255) else (decide (224 ≤ bN l 0) && decide (bN l 0 ≤ 239))
theorem ret_bool {a b : Bool} (h : a = b) : Ending.returned (.bool a) = .returned (.bool b) := by rw [h]
theorem group_any (v : Bool) (l : List UInt8) (hl : l.length = 16) (w : World) : Calls Tryz.prog 29 #[.agg (addrC v l).toArray] w fun e w' => e = .returned (.bool (grpV v l)) ∧ Below w.heap.size w w' := by
  obtain ⟨b0, b1, b2, b3, b4, b5, b6, b7, b8, b9, ba, bb, bc, bd, be, bf, rfl⟩ := list16 hl
  clear hl
  show Calls Tryz.prog 29 #[.agg #[.bool v, .int .u8 b0.toNat, .int .u8 b1.toNat, .int .u8 b2.toNat, .int .u8 b3.toNat, .int .u8 b4.toNat, .int .u8 b5.toNat, .int .u8 b6.toNat, .int .u8 b7.toNat, .int .u8 b8.toNat, .int .u8 b9.toNat, .int .u8 ba.toNat, .int .u8 bb.toNat, .int .u8 bc.toNat, .int .u8 bd.toNat, .int .u8 be.toNat, .int .u8 bf.toNat]] w _
  cases v <;>
  · go_enter Tryz.func29, Tryz.ntmps29
    go_wp2
    all_goals
      go_ret
      exact ⟨ret_bool (by simp_all [grpV, bN] <;> omega), (Below.refl _ _).alloc (Nat.le_refl _) _⟩
theorem row_box (w : World) (v : Bool) (l : List UInt8) (hl : l.length = 16) (t : TypeId) : row? (w.alloc (.cells (addrC v l).toArray t)) w.heap.size 0 17 = some (addrC v l) := by
  have h := row?_of (w := w.alloc (.cells (addrC v l).toArray t)) (b := w.heap.size) (o := 0) (cs := addrC v l) (fun j x hj => by rw [World.cell?_alloc_mark]; simpa using hj)
  rwa [addrC_length, hl] at h
def BoxAt (w W : World) (v : Bool) (l : List UInt8) : Prop := W.cell? ⟨w.heap.size, 0, none⟩ = some (.bool v) ∧ RowAt W w.heap.size 1 l ∧ row? W w.heap.size 0 17 = some (addrC v l) ∧ w.heap.size < W.heap.size ∧ Below w.heap.size w W
theorem BoxAt.made (w : World) (v : Bool) (l : List UInt8) (hl : l.length = 16) (t : TypeId) : BoxAt w (w.alloc (.cells (addrC v l).toArray t)) v l :=
  ⟨by simp [addrC], rowAt_box w v l t (0, 0) _ rfl, row_box w v l hl t, by simp, (Below.refl _ _).alloc (Nat.le_refl _) _⟩
theorem BoxAt.keep {w W W' : World} {v : Bool} {l : List UInt8} (h : BoxAt w W v l) (hb : Below W.heap.size W W') : BoxAt w W' v l :=
  ⟨by rw [hb.cell (p := ⟨w.heap.size, 0, none⟩) h.2.2.2.1]; exact h.1, h.2.1.below h.2.2.2.1 hb, row?_below h.2.2.1 h.2.2.2.1 hb, Nat.lt_of_lt_of_le h.2.2.2.1 hb.size, bstep h.2.2.2.2 hb⟩
theorem BoxAt.drewN {w W : World} {v : Bool} {l : List UInt8} (h : BoxAt w W v l) (n : Nat) : BoxAt w (W.drewN n) v l := h.keep (bdrewN (Below.refl _ _) n)
theorem BoxAt.alloc {w W : World} {v : Bool} {l : List UInt8} (h : BoxAt w W v l) (o : Obj) : BoxAt w (W.alloc o) v l := h.keep ((Below.refl _ _).alloc (Nat.le_refl _) _)
theorem BoxAt.at {w W : World} {v : Bool} {l : List UInt8} (h : BoxAt w W v l) (i : Nat) (hi : i < l.length) : W.cell? ⟨w.heap.size, 1 + i, none⟩ = some (.int .u8 ((l[i]).toNat : Int)) := h.2.1 i hi
end Go.Proofs.YtlbdehegknehiaaGreat

/- A part of the proof. -/
namespace Go.Proofs.YtlbdehegknehiaaGreat
set_option maxRecDepth 100000
set_option maxHeartbeats 1000000
open Go.RowKit
set_option linter.unusedVariables false
attribute [local go_sem ↓] bld_addr bld_mac bld_b16 ld_addr st_addr ld_mac st_mac ld_b16
attribute [local go_sem] ldr_addr str_addr ldr_mac str_mac ldr_b16
theorem ip4_any (a b c d : Int) (w : World) : Calls Tryz.prog 76 #[.int .u8 a, .int .u8 b, .int .u8 c, .int .u8 d] w fun e w' => e = .returned (.agg #[.bool false, .int .u8 a, .int .u8 b, .int .u8 c, .int .u8 d, .int .u8 0, .int .u8 0, .int .u8 0, .int .u8 0, .int .u8 0, .int .u8 0, .int .u8 0, .int .u8 0, .int .u8 0, .int .u8 0, .int .u8 0, .int .u8 0]) ∧ Below w.heap.size w w' := by
  have hok : fok #[.bool false, .int .u8 a, .int .u8 b, .int .u8 c, .int .u8 d, .int .u8 0, .int .u8 0, .int .u8 0, .int .u8 0, .int .u8 0, .int .u8 0, .int .u8 0, .int .u8 0, .int .u8 0, .int .u8 0, .int .u8 0, .int .u8 0] 17 = true := by simp [fok, Value.oneCell']
  have hb1 : ∀ w0, (aggBuild 22 #[(0, .int .u8 a), (1, .int .u8 b), (2, .int .u8 c), (3, .int .u8 d)]).run Tryz.prog w0 = .ok (.agg #[.int .u8 a, .int .u8 b, .int .u8 c, .int .u8 d, .int .u8 0, .int .u8 0, .int .u8 0, .int .u8 0, .int .u8 0, .int .u8 0, .int .u8 0, .int .u8 0, .int .u8 0, .int .u8 0, .int .u8 0, .int .u8 0]) w0 := bld_run _ _ _ (by kernel_rfl)
  have hb2 : ∀ w0, (aggBuild 24 #[(1, .agg #[.int .u8 a, .int .u8 b, .int .u8 c, .int .u8 d, .int .u8 0, .int .u8 0, .int .u8 0, .int .u8 0, .int .u8 0, .int .u8 0, .int .u8 0, .int .u8 0, .int .u8 0, .int .u8 0, .int .u8 0, .int .u8 0])]).run Tryz.prog w0 = .ok (.agg #[.bool false, .int .u8 a, .int .u8 b, .int .u8 c, .int .u8 d, .int .u8 0, .int .u8 0, .int .u8 0, .int .u8 0, .int .u8 0, .int .u8 0, .int .u8 0, .int .u8 0, .int .u8 0, .int .u8 0, .int .u8 0, .int .u8 0]) w0 := bld_run _ _ _ (by kernel_rfl)
  go_enter Tryz.func76, Tryz.ntmps76
  go_upto_region 1 with (fail)
  have hf := free_made w zz17 24 17 (by simp)
  have hb : Below w.heap.size w (w.alloc (.cells zz17 24)) := (Below.refl _ _).alloc (Nat.le_refl _) _
  generalize w.alloc (.cells zz17 24) = W at hf hb ⊢
  have Hb := zh hb; clear hb
  go_wp2
  have hr := aggW_row (cs := [.bool false, .int .u8 a, .int .u8 b, .int .u8 c, .int .u8 d, .int .u8 0, .int .u8 0, .int .u8 0, .int .u8 0, .int .u8 0, .int .u8 0, .int .u8 0, .int .u8 0, .int .u8 0, .int .u8 0, .int .u8 0, .int .u8 0]) hf rfl
  exact bodyPost_ret (results_cell Tryz.results76 rfl (ld_some hr (ldr_addr _ _ _))) rfl ⟨rfl, aggW_below Hb.out (Nat.le_refl _) _⟩
def bytesV (v : Bool) (l : List UInt8) : List UInt8 := if v then l else l.take 4
theorem bytes_any (v : Bool) (l : List UInt8) (hl : l.length = 16) (w : World) : Calls Tryz.prog 140 #[.agg (addrC v l).toArray] w fun e w' => e = .returned (.string (Str (bytesV v l))) ∧ Below w.heap.size w w' := by
  have HB := zh (BoxAt.made w v l hl 24)
  go_enter Tryz.func140, Tryz.ntmps140
  go_upto_region 1 with (fail)
  have hbx := HB.out
  clear HB
  generalize w.alloc (.cells (addrC v l).toArray 24) = W at hbx ⊢
  have HB := zh hbx
  obtain ⟨k0, k1, k2, k3, k4⟩ := hbx
  have hc16 := run_string_row (P := Tryz.prog) 94 9 5 Tryz.underlying94 Tryz.underlying5 Tryz.underlying9 k1 16 16 (by omega)
  have hc4 := run_string_row (P := Tryz.prog) 94 9 5 Tryz.underlying94 Tryz.underlying5 Tryz.underlying9 k1 4 16 (by omega)
  rw [List.take_of_length_le (by omega)] at hc16
  clear k1 k2 k3 k4 hl
  cases v with
  | true =>
    go_wp2
    go_ret
    exact ⟨rfl, HB.out.2.2.2.2⟩
  | false =>
    go_wp2
    go_ret
    exact ⟨rfl, HB.out.2.2.2.2⟩
def readV (s : List UInt8) : List UInt8 := s ++ List.replicate (16 - s.length) 0
theorem readV_length (s : List UInt8) (h : s.length ≤ 16) : (readV s).length = 16 := by simp [readV]; omega
theorem over_read (v : Bool) (l : List UInt8) (h : l.length ≤ 16) : over (addrC v (List.replicate 16 0)) 1 (B8 l) = addrC v (readV l) := by
  have e1 : (List.replicate 16 (0 : UInt8)).drop l.length = List.replicate (16 - l.length) 0 := by rw [List.drop_replicate]
  show (addrC v (List.replicate 16 0)).take 1 ++ (B8 l ++ (addrC v (List.replicate 16 0)).drop (1 + (B8 l).length)) = _
  rw [B8_length, Nat.add_comm 1 l.length, show addrC v (List.replicate 16 0) = .bool v :: B8 (List.replicate 16 0) from rfl, List.drop_succ_cons]
  unfold B8 addrC readV B8
  rw [← List.map_drop, e1, List.map_append]
  rfl
theorem read_bad (l : List UInt8) (h1 : l.length ≤ 1000000) (h4 : decide ((l.length : Int) = 4) = false) (h16 : decide ((l.length : Int) = 16) = false) (w : World) :
    Calls Tryz.prog 215 #[.string (Str l)] w fun e w' => e = .returned (.tuple #[.agg (addrC false (List.replicate 16 0)).toArray, .int .i64 2]) ∧ Below w.heap.size w w' := by
  have hsz := Str_size l
  have g4 : ((l.length : Int) == 4) = false := by simpa using h4
  have g16 : ((l.length : Int) == 16) = false := by simpa using h16
  have i4 : ((l.length : Int) != 4) = true := by simp [bne, g4]
  have i16 : ((l.length : Int) != 16) = true := by simp [bne, g16]
  have hok : fok zz17 17 = true := by simp [fok, Value.oneCell']
  have hbld : ∀ w0, (aggBuild 24 #[]).run Tryz.prog w0 = .ok (.agg zz17) w0 := bld_run _ _ _ (by kernel_rfl)
  go_enter Tryz.func215, Tryz.ntmps215
  go_upto_region 1 with (fail)
  have hf := free_made w zz17 24 17 (by simp)
  have hb : Below w.heap.size w (w.alloc (.cells zz17 24)) := (Below.refl _ _).alloc (Nat.le_refl _) _
  generalize w.alloc (.cells zz17 24) = W at hf hb ⊢
  have Hb := zh hb; clear hb
  go_wp2
  have hr := aggW_row (cs := addrC false (List.replicate 16 0)) hf rfl
  exact bodyPost_ret (results_cell2 Tryz.results215 rfl (ld_some hr (ldr_addr _ _ _))) rfl ⟨rfl, aggW_below Hb.out (Nat.le_refl _) _⟩
theorem read_good (v : Bool) (l : List UInt8) (h1 : l.length ≤ 16) (hv : ((l.length : Int) == 16) = v) (g : ((l.length : Int) == 4) = !v) (w : World) :
    Calls Tryz.prog 215 #[.string (Str l)] w fun e w' => e = .returned (.tuple #[.agg (addrC v (readV l)).toArray, .int .i64 0]) ∧ Below w.heap.size w w' := by
  have hsz := Str_size l
  have i4 : ((l.length : Int) != 4) = v := by simp [bne, g]
  have i16 : ((l.length : Int) != 16) = !v := by simp [bne, hv]
  have HV := zh hv
  have hok : fok #[.bool v, .int .u8 0, .int .u8 0, .int .u8 0, .int .u8 0, .int .u8 0, .int .u8 0, .int .u8 0, .int .u8 0, .int .u8 0, .int .u8 0, .int .u8 0, .int .u8 0, .int .u8 0, .int .u8 0, .int .u8 0, .int .u8 0] 17 = true := by simp [fok, Value.oneCell']
  have hbld : ∀ w0, (aggBuild 24 #[(0, .bool v)]).run Tryz.prog w0 = .ok (.agg #[.bool v, .int .u8 0, .int .u8 0, .int .u8 0, .int .u8 0, .int .u8 0, .int .u8 0, .int .u8 0, .int .u8 0, .int .u8 0, .int .u8 0, .int .u8 0, .int .u8 0, .int .u8 0, .int .u8 0, .int .u8 0, .int .u8 0]) w0 := bld_run _ _ _ (by kernel_rfl)
  have hok2 := fok_addr v (readV l) (readV_length l h1)
  go_enter Tryz.func215, Tryz.ntmps215
  go_upto_region 1 with (fail)
  have ho := ObjAt.made w zz17 24
  have hb : Below w.heap.size w (w.alloc (.cells zz17 24)) := (Below.refl _ _).alloc (Nat.le_refl _) _
  have hz : w.heap.size < (w.alloc (.cells zz17 24)).heap.size := by simp
  generalize w.alloc (.cells zz17 24) = W at ho hb hz ⊢
  have Hb := zh hb; clear hb
  have Ho := zh ho; clear ho
  have hf2 := free_made W zz17 24 17 (by simp)
  have hA := ObjAt.made W zz17 24
  have h0A : ObjAt (W.alloc (.cells zz17 24)) w.heap.size _ _ := Ho.out.alloc _
  have hbA : Below w.heap.size w (W.alloc (.cells zz17 24)) := Hb.out.alloc (by omega) _
  have hB := aggW_obj (cs := [.bool v, .int .u8 0, .int .u8 0, .int .u8 0, .int .u8 0, .int .u8 0, .int .u8 0, .int .u8 0, .int .u8 0, .int .u8 0, .int .u8 0, .int .u8 0, .int .u8 0, .int .u8 0, .int .u8 0, .int .u8 0, .int .u8 0]) hA rfl (addrC_one v (List.replicate 16 0))
  have h0B := aggW_other h0A [.bool v, .int .u8 0, .int .u8 0, .int .u8 0, .int .u8 0, .int .u8 0, .int .u8 0, .int .u8 0, .int .u8 0, .int .u8 0, .int .u8 0, .int .u8 0, .int .u8 0, .int .u8 0, .int .u8 0, .int .u8 0, .int .u8 0] (b := W.heap.size) (by omega)
  have hbB := aggW_below hbA (b := W.heap.size) (by omega) [.bool v, .int .u8 0, .int .u8 0, .int .u8 0, .int .u8 0, .int .u8 0, .int .u8 0, .int .u8 0, .int .u8 0, .int .u8 0, .int .u8 0, .int .u8 0, .int .u8 0, .int .u8 0, .int .u8 0, .int .u8 0, .int .u8 0]
  have hC := aggO_obj hB (o := 1) (cs := B8 l) (by rw [B8_length]; simp; omega) (B8_one l)
  rw [show over [.bool v, .int .u8 0, .int .u8 0, .int .u8 0, .int .u8 0, .int .u8 0, .int .u8 0, .int .u8 0, .int .u8 0, .int .u8 0, .int .u8 0, .int .u8 0, .int .u8 0, .int .u8 0, .int .u8 0, .int .u8 0, .int .u8 0] 1 (B8 l) = addrC v (readV l) from over_read v l h1] at hC
  have h0C := aggO_other (o := 1) h0B (B8 l) (b := W.heap.size) (by omega)
  have hbC := aggO_below hbB (b := W.heap.size) (by omega) 1 (B8 l)
  have hrC := obj_row (A := []) (M := addrC v (readV l)) (C := []) (o := 0) (n := 17) (by simpa using hC) rfl (by rw [addrC_length, readV_length l h1])
  have hfC := obj_free (n := 17) h0C (by simp)
  have HB := zh hB; have HbC := zh hbC
  have hrD := aggW_row (cs := addrC v (readV l)) hfC (by rw [addrC_length, readV_length l h1])
  have HrD := zh hrD
  clear hA h0A hbA hB h0B hbB hC h0C hbC hrD
  cases v <;>
  · go_wp2_with (with_reducible refine wpList_copy_str rfl (.tmp 19) (.tmp 20) 94 9 rfl Tryz.underlying94 W.heap.size 1 16 16 rfl l rfl (by omega) _ _ HB.out (by simp; omega) ?_)
    exact bodyPost_ret (results_cell2 Tryz.results215 rfl (ld_some HrD.out (ldr_addr _ _ _))) rfl ⟨rfl, aggW_below HbC.out (Nat.le_refl _) _⟩
end Go.Proofs.YtlbdehegknehiaaGreat

