/-
  Talks of IGMP as bytes, plain: what bytes say, a talk's bytes, and that it comes back from them.
-/
import Derived.Test.YtchbkamjmkfikaaMg09
import Derived.Test.YtchbkamjmkfikaaMg13
namespace Go.Proofs.Ytchbkamjmkfikaa
open Go.RowKit
set_option linter.unusedVariables false

def zeroA : AD := (false, List.replicate 16 0)
def zeroT : TK := ⟨false, 0, 0, 0, zeroA, false, 0, 0, [], []⟩
def fourL (s : List UInt8) (i : Nat) : AD := (false, readV ((s.drop i).take 4))
def srcsL (s : List UInt8) (i n : Nat) : List AD := (List.range n).map fun k => fourL s (i + 4 * k)
def srcsE (s : List UInt8) (i n : Nat) : Int := if 64 < n then 6 else if s.length < i + 4 * n then 3 else 0
def rec1 (s : List UInt8) (i : Nat) : RC := ⟨by8 s i, fourL s (i + 4), srcsL s (i + 8) (wd s (i + 2))⟩
def recN (s : List UInt8) (i : Nat) : Nat := i + 8 + 4 * wd s (i + 2) + 4 * by8 s (i + 1)
def rcOk (r : RC) : Bool := decide (1 ≤ r.kind ∧ r.kind ≤ 6) && grp8 r.g
def recL (s : List UInt8) : Nat → Nat → List RC × Int
  | _, 0 => ([], 0)
  | i, n + 1 =>
    if s.length < i + 8 then ([], 3)
    else if srcsE s (i + 8) (wd s (i + 2)) ≠ 0 then ([], srcsE s (i + 8) (wd s (i + 2)))
    else if s.length < recN s i then ([], 3)
    else if (recL s (recN s i) n).2 ≠ 0 then ([], (recL s (recN s i) n).2)
    else (if rcOk (rec1 s i) then rec1 s i :: (recL s (recN s i) n).1 else (recL s (recN s i) n).1, 0)
def qry (s : List UInt8) : TK × Int :=
  if 8 < s.length ∧ s.length < 12 then (zeroT, 2)
  else if fourL s 4 ≠ zeroA ∧ grp8 (fourL s 4) = false then (zeroT, 2)
  else if s.length = 8 then
    if by8 s 1 = 0 then if fourL s 4 ≠ zeroA then (zeroT, 2) else (⟨false, 1, 1, 0, fourL s 4, false, 0, 0, [], []⟩, 0)
    else (⟨false, 2, 1, by8 s 1, fourL s 4, false, 0, 0, [], []⟩, 0)
  else if fourL s 4 = zeroA ∧ 0 < wd s 10 then (zeroT, 2)
  else if srcsE s 12 (wd s 10) ≠ 0 then (zeroT, srcsE s 12 (wd s 10))
  else (⟨false, 3, 1, valN (by8 s 1) 16, fourL s 4, decide (by8 s 8 / 8 % 2 = 1), (by8 s 8 % 8 : Nat), valN (by8 s 9) 16, srcsL s 12 (wd s 10), []⟩, 0)
def readT (s : List UInt8) : TK × Int :=
  if s.length < 8 then (zeroT, 3)
  else if foldN (wsum s) ≠ 65535 then (zeroT, 4)
  else if by8 s 0 = 17 then qry s
  else if by8 s 0 = 34 then
    if 64 < wd s 6 then (zeroT, 6)
    else if (recL s 8 (wd s 6)).2 ≠ 0 then (zeroT, (recL s 8 (wd s 6)).2)
    else (⟨false, 3, 2, 0, zeroA, false, 0, 0, [], (recL s 8 (wd s 6)).1⟩, 0)
  else if by8 s 0 = 18 ∨ by8 s 0 = 22 ∨ by8 s 0 = 23 then
    if grp8 (fourL s 4) = false then (zeroT, 2)
    else (⟨false, if by8 s 0 = 18 then 1 else 2, if by8 s 0 = 23 then 3 else 2, 0, fourL s 4, false, 0, 0, [], []⟩, 0)
  else (zeroT, 5)

/-- Whether a talk is good. -/
def sizeR (l : List RC) : Nat := (l.map fun r => 8 + 4 * r.src.length).sum + 8
def recOk (r : RC) : Bool := rcOk r && srcs8 r.src
def good8 (t : TK) : Bool :=
  if t.v6 = true ∨ t.ver < 1 ∨ 3 < t.ver ∨ t.kind < 1 ∨ 3 < t.kind then false
  else if ¬ (t.ver = 3 ∧ t.kind = 1) ∧ (t.quiet = true ∨ t.rob ≠ 0 ∨ t.every ≠ 0 ∨ 0 < t.src.length) then false
  else if (t.kind ≠ 1 ∧ t.resp ≠ 0) ∨ (0 < t.rcs.length ∧ (t.ver < 3 ∨ t.kind ≠ 2)) then false
  else if t.kind = 3 then decide (t.ver = 2) && grp8 t.g
  else if t.kind = 2 ∧ t.ver < 3 then grp8 t.g
  else if t.kind = 2 then t.rcs.all recOk && (decide (t.g = zeroA) && (decide (t.rcs.length < 65) && decide (sizeR t.rcs < 1401)))
  else if t.ver = 1 then decide (t.resp = 0) && decide (t.g = zeroA)
  else if t.g ≠ zeroA ∧ grp8 t.g = false then false
  else if t.ver = 2 then decide (0 < t.resp ∧ t.resp < 256)
  else exactN t.resp 16 255 && (exactN t.every 16 255 && (decide (0 ≤ t.rob ∧ t.rob < 8) && (srcs8 t.src && (decide (t.g ≠ zeroA) || decide (t.src.length = 0)))))

/-- A talk's bytes. -/
def recB (r : RC) : List UInt8 := putL r.kind.toNat 1 ++ (0 :: (putL r.src.length 2 ++ (adB r.g ++ listL r.src)))
def kindT (t : TK) : Nat := if t.kind = 3 then 23 else if t.kind = 2 then (if t.ver = 1 then 18 else if t.ver = 2 then 22 else 34) else 17
def secT (t : TK) : Nat := if t.kind = 1 ∧ t.ver = 3 then codeN t.resp 16 255 else t.resp.toNat
def flagT (t : TK) : Nat := if t.quiet then t.rob.toNat + 8 else t.rob.toNat
def restT (t : TK) : List UInt8 :=
  if t.kind = 2 ∧ t.ver = 3 then putL t.rcs.length 4 ++ (t.rcs.map recB).flatten
  else if t.kind = 1 ∧ t.ver = 3 then adB t.g ++ (putL (flagT t) 1 ++ (putL (codeN t.every 16 255) 1 ++ (putL t.src.length 2 ++ listL t.src)))
  else adB t.g
def headT (t : TK) : List UInt8 := putL (kindT t) 1 ++ putL (secT t) 1
def chkT (t : TK) : Nat := 65535 - foldN (wsum (headT t ++ restT t))
def wrtT (t : TK) : List UInt8 := headT t ++ (putL (chkT t) 2 ++ restT t)
theorem headT_length (t : TK) : (headT t).length = 2 := by unfold headT; simp [putL_length]
theorem wrtT_sum (t : TK) : foldN (wsum (wrtT t)) = 65535 := by
  unfold wrtT
  have h1 := headT_length t
  rw [wsum_append _ _ (by omega), wsum_append _ _ (by rw [putL_length]), wsum_put2 _ (by unfold chkT; omega)]
  unfold chkT
  rw [wsum_append _ _ (by omega)]
  have := check_good (wsum (headT t) + wsum (restT t))
  rw [show wsum (headT t) + (65535 - foldN (wsum (headT t) + wsum (restT t)) + wsum (restT t)) = wsum (headT t) + wsum (restT t) + (65535 - foldN (wsum (headT t) + wsum (restT t))) by omega]
  exact this
/-- Addresses of IPv4 as bytes and back. -/
theorem four_back {a : AD} (ho : adOk a) (hv : a.1 = false) (hg : goodV a.1 a.2 = true) (pre post : List UInt8) : fourL (pre ++ (adB a ++ post)) pre.length = a ∧ (adB a).length = 4 := by
  obtain ⟨v, l⟩ := a
  simp only at hv hg ho
  subst hv
  have hl : l.length = 16 := ho
  have hb : adB (false, l) = l.take 4 := rfl
  have h4 : (l.take 4).length = 4 := by simp; omega
  refine ⟨?_, by rw [hb]; exact h4⟩
  unfold fourL
  rw [List.drop_left, hb, take_app h4, goodV_four l hl hg]
theorem srcs_back (l : List AD) (ho : ∀ a ∈ l, adOk a) (hs : l.all src8 = true) : ∀ (pre post : List UInt8), srcsL (pre ++ (listL l ++ post)) pre.length l.length = l ∧ (listL l).length = 4 * l.length := by
  induction l with
  | nil => intro pre post; exact ⟨rfl, rfl⟩
  | cons a r ih =>
    intro pre post
    rw [List.all_cons, Bool.and_eq_true] at hs
    obtain ⟨h1, h2⟩ := hs
    unfold src8 at h1
    rw [Bool.and_eq_true, Bool.not_eq_true'] at h1
    obtain ⟨f1, f2⟩ := four_back (ho a (by simp)) h1.1 h1.2 pre (listL r ++ post)
    obtain ⟨g1, g2⟩ := ih (fun b hb => ho b (by simp [hb])) h2 (pre ++ adB a) post
    have hc : listL (a :: r) = adB a ++ listL r := by simp [listL]
    constructor
    · rw [hc]
      unfold srcsL at g1 ⊢
      rw [List.length_cons, List.range_succ_eq_map, List.map_cons, List.map_map]
      rw [show pre ++ (adB a ++ listL r ++ post) = pre ++ (adB a ++ (listL r ++ post)) by simp, Nat.mul_zero, Nat.add_zero, f1]
      congr 1
      rw [show pre ++ adB a ++ (listL r ++ post) = pre ++ (adB a ++ (listL r ++ post)) by simp, List.length_append, f2] at g1
      refine Eq.trans (List.map_congr_left fun k hk => ?_) g1
      show fourL _ (pre.length + 4 * (k + 1)) = fourL _ (pre.length + 4 + 4 * k)
      congr 1
      omega
    · rw [hc, List.length_append, f2, g2, List.length_cons]; omega
theorem by8_at (pre x : List UInt8) (j : Nat) : by8 (pre ++ x) (pre.length + j) = by8 x j := by
  unfold by8
  rw [List.getD_eq_getElem?_getD, List.getD_eq_getElem?_getD, List.getElem?_append_right (by omega), Nat.add_sub_cancel_left]
theorem wd_at (pre x : List UInt8) (j : Nat) : wd (pre ++ x) (pre.length + j) = wd x j := by
  unfold wd
  rw [← List.drop_drop, List.drop_left]
theorem grp8_parts {a : AD} (h : grp8 a = true) : a.1 = false ∧ goodV a.1 a.2 = true := by
  unfold grp8 at h
  rw [Bool.and_eq_true, Bool.and_eq_true, Bool.not_eq_true'] at h
  exact ⟨h.1, h.2.1⟩
theorem recB_eq (r : RC) : recB r = [UInt8.ofNat r.kind.toNat, 0, UInt8.ofNat (r.src.length / 256), UInt8.ofNat r.src.length] ++ (adB r.g ++ listL r.src) := by
  unfold recB
  rw [putL_one, putL_tw]
  simp
/-- One record at a place. -/
theorem rec_at (r : RC) (ho : adOk r.g ∧ ∀ a ∈ r.src, adOk a) (hr : recOk r = true) (pre post : List UInt8) (s : List UInt8) (hs : s = pre ++ (recB r ++ post)) :
    rec1 s pre.length = r ∧ recN s pre.length = (pre ++ recB r).length ∧ srcsE s (pre.length + 8) (wd s (pre.length + 2)) = 0 ∧ pre.length + 8 ≤ s.length ∧ recN s pre.length ≤ s.length ∧ rcOk (rec1 s pre.length) = true := by
  unfold recOk at hr
  rw [Bool.and_eq_true] at hr
  obtain ⟨h1, h2⟩ := hr
  have hrc := h1
  unfold rcOk at h1
  rw [Bool.and_eq_true, decide_eq_true_eq] at h1
  obtain ⟨⟨k1, k6⟩, hg⟩ := h1
  unfold srcs8 at h2
  rw [Bool.and_eq_true, decide_eq_true_eq] at h2
  obtain ⟨hsr, h64⟩ := h2
  obtain ⟨gv, gg⟩ := grp8_parts hg
  obtain ⟨kind, g, src⟩ := r
  simp only at *
  obtain ⟨k, rfl⟩ := Int.eq_ofNat_of_zero_le (show 0 ≤ kind by omega)
  have hB := recB_eq ⟨(k : Int), g, src⟩
  simp only [Int.toNat_natCast] at hB
  obtain ⟨H, hH⟩ : ∃ H : List UInt8, H = [UInt8.ofNat k, 0, UInt8.ofNat (src.length / 256), UInt8.ofNat src.length] := ⟨_, rfl⟩
  rw [← hH] at hB
  have hH4 : H.length = 4 := by rw [hH]; rfl
  obtain ⟨f1, f2⟩ := four_back ho.1 gv gg (pre ++ H) (listL src ++ post)
  obtain ⟨s1, s2⟩ := srcs_back src ho.2 hsr (pre ++ H ++ adB g) post
  have hs1 : s = pre ++ H ++ (adB g ++ (listL src ++ post)) := by rw [hs, hB]; simp
  have hs2 : s = pre ++ H ++ adB g ++ (listL src ++ post) := by rw [hs, hB]; simp
  have hs3 : s = pre ++ (H ++ (adB g ++ (listL src ++ post))) := by rw [hs, hB]; simp
  rw [← hs1, List.length_append, hH4] at f1
  rw [← hs2, List.length_append, List.length_append, hH4, f2] at s1
  have b0 : by8 s pre.length = k := by
    have := by8_at pre (H ++ (adB g ++ (listL src ++ post))) 0
    rw [← hs3, Nat.add_zero] at this
    rw [this, hH]
    exact ofNat_small (by omega)
  have b1 : by8 s (pre.length + 1) = 0 := by
    have := by8_at pre (H ++ (adB g ++ (listL src ++ post))) 1
    rw [← hs3] at this
    rw [this, hH]
    rfl
  have w2 : wd s (pre.length + 2) = src.length := by
    have := wd_at pre (H ++ (adB g ++ (listL src ++ post))) 2
    rw [← hs3] at this
    rw [this, hH]
    have h := num2_putL src.length (by omega)
    rw [putL_tw] at h
    exact h
  have hlen : s.length = pre.length + 8 + 4 * src.length + post.length := by
    rw [hs1]; simp [hH4, f2, s2]; omega
  have hRl : (pre ++ recB ⟨(k : Int), g, src⟩).length = pre.length + 8 + 4 * src.length := by
    rw [hB]; simp [hH4, f2, s2]; omega
  have hrec : rec1 s pre.length = ⟨(k : Int), g, src⟩ := by
    unfold rec1
    rw [b0, f1, w2, s1]
  refine ⟨hrec, ?_, ?_, by omega, ?_, by rw [hrec]; exact hrc⟩
  · unfold recN; rw [w2, b1, hRl]; omega
  · unfold srcsE; rw [w2, if_neg (by omega), if_neg (by omega)]
  · unfold recN; rw [w2, b1]; omega
theorem recs_back (l : List RC) (ho : ∀ r ∈ l, adOk r.g ∧ ∀ a ∈ r.src, adOk a) (hr : l.all recOk = true) : ∀ (pre post : List UInt8), recL (pre ++ ((l.map recB).flatten ++ post)) pre.length l.length = (l, 0) := by
  induction l with
  | nil => intro pre post; rfl
  | cons r q ih =>
    intro pre post
    rw [List.all_cons, Bool.and_eq_true] at hr
    have hs : pre ++ (((r :: q).map recB).flatten ++ post) = pre ++ (recB r ++ ((q.map recB).flatten ++ post)) := by simp
    obtain ⟨e1, e2, e3, e4, e5, e6⟩ := rec_at r (ho r (by simp)) hr.1 pre ((q.map recB).flatten ++ post) _ hs
    have hi := ih (fun x hx => ho x (by simp [hx])) hr.2 (pre ++ recB r) post
    rw [show pre ++ recB r ++ ((q.map recB).flatten ++ post) = pre ++ (((r :: q).map recB).flatten ++ post) by simp, ← e2] at hi
    generalize pre ++ (((r :: q).map recB).flatten ++ post) = s at *
    rw [List.length_cons]
    unfold recL
    rw [if_neg (by omega), if_neg (by rw [e3]; simp), if_neg (by omega), hi, if_neg (by simp), e1, if_pos (by rw [← e1]; exact e6)]
/-- What stands where in a talk's bytes. -/
theorem wrtT_parts (t : TK) (hk : kindT t < 256) (hs : secT t < 256) : by8 (wrtT t) 0 = kindT t ∧ by8 (wrtT t) 1 = secT t ∧ (wrtT t).length = 4 + (restT t).length ∧ ∃ H : List UInt8, H.length = 4 ∧ wrtT t = H ++ restT t := by
  have e : wrtT t = [UInt8.ofNat (kindT t), UInt8.ofNat (secT t), UInt8.ofNat (chkT t / 256), UInt8.ofNat (chkT t)] ++ restT t := by
    unfold wrtT headT
    rw [putL_one, putL_one, putL_tw]
    simp
  refine ⟨?_, ?_, ?_, _, rfl, e⟩
  · rw [e]; exact ofNat_small hk
  · rw [e]; exact ofNat_small hs
  · rw [e, List.length_append]; rfl
theorem kindT_lt (t : TK) : kindT t < 256 := by unfold kindT; repeat' split
                                                all_goals omega
def TK.ok (t : TK) : Prop := adOk t.g ∧ (∀ a ∈ t.src, adOk a) ∧ ∀ r ∈ t.rcs, adOk r.g ∧ ∀ a ∈ r.src, adOk a
theorem zeroA_ok : adOk zeroA := rfl
theorem zeroA_bytes : adB zeroA = [0, 0, 0, 0] := rfl
theorem zeroA_back (pre post : List UInt8) : fourL (pre ++ (adB zeroA ++ post)) pre.length = zeroA := by
  unfold fourL
  rw [List.drop_left, take_app (show (adB zeroA).length = 4 from rfl)]
  rfl
/-- The group behind the first four bytes. -/
theorem grp_back {t : TK} {H X : List UInt8} (hH : H.length = 4) (ho : adOk t.g) (hg : t.g = zeroA ∨ grp8 t.g = true) : fourL (H ++ (adB t.g ++ X)) 4 = t.g ∧ (adB t.g).length = 4 := by
  rcases hg with h | h
  · rw [h]
    have := zeroA_back H X
    rw [hH] at this
    exact ⟨this, rfl⟩
  · obtain ⟨g1, g2⟩ := grp8_parts h
    have := four_back ho g1 g2 H X
    rw [hH] at this
    exact this
/-- A report of version 3 and its bytes. -/
theorem back_rep (t : TK) (ho : t.ok) (hv : t.v6 = false) (h3 : t.ver = 3) (h2 : t.kind = 2) (hq : t.quiet = false) (hr : t.rob = 0) (he : t.every = 0) (hs : t.src = []) (hp : t.resp = 0) (hz : t.g = zeroA) (hrc : t.rcs.all recOk = true) (hl : t.rcs.length < 65) :
    readT (wrtT t) = (t, 0) := by
  have hk : kindT t = 34 := by unfold kindT; rw [if_neg (by omega), if_pos h2, if_neg (by omega), if_neg (by omega)]
  have hse : secT t = 0 := by unfold secT; rw [if_neg (by omega), hp]; rfl
  obtain ⟨b0, b1, bl, H, hH, hW⟩ := wrtT_parts t (kindT_lt t) (by omega)
  have hsum := wrtT_sum t
  have hR : restT t = putL t.rcs.length 4 ++ (t.rcs.map recB).flatten := by unfold restT; rw [if_pos ⟨h2, h3⟩]
  have hp4 : putL t.rcs.length 4 = [0, 0] ++ putL t.rcs.length 2 := by
    rw [putL_tw]
    simp only [putL, List.cons_append, List.nil_append, List.cons.injEq, and_true]
    refine ⟨?_, ?_, ?_, ?_⟩ <;>
    first
    | trivial
    | (apply UInt8.toNat_inj.1
       simp only [UInt8.toNat_ofNat', UInt8.toNat_zero]
       omega)
  have hw6 : wd (wrtT t) 6 = t.rcs.length := by
    rw [hW, hR, hp4]
    have := wd_at (H ++ [0, 0]) (putL t.rcs.length 2 ++ (t.rcs.map recB).flatten) 0
    have h6 : (H ++ ([0, 0] : List UInt8)).length + 0 = 6 := by simp [hH]
    rw [h6] at this
    rw [show H ++ ([0, 0] ++ putL t.rcs.length 2 ++ (t.rcs.map recB).flatten) = H ++ [0, 0] ++ (putL t.rcs.length 2 ++ (t.rcs.map recB).flatten) by simp, this]
    unfold wd
    rw [List.drop_zero, take_app (putL_length _ 2), num2_putL _ (by omega)]
  have hrec : recL (wrtT t) 8 t.rcs.length = (t.rcs, 0) := by
    have := recs_back t.rcs ho.2.2 hrc (H ++ putL t.rcs.length 4) []
    rw [show (H ++ putL t.rcs.length 4).length = 8 by simp [hH, putL_length], show H ++ putL t.rcs.length 4 ++ ((t.rcs.map recB).flatten ++ []) = wrtT t by rw [hW, hR]; simp] at this
    exact this
  have hlen : 8 ≤ (wrtT t).length := by rw [bl, hR, List.length_append, putL_length]; omega
  unfold readT
  rw [if_neg (by omega), if_neg (by rw [hsum]; simp), b0, hk, if_neg (by omega), if_pos rfl, hw6, if_neg (by omega), hrec, if_neg (by simp)]
  obtain ⟨v6, ver, kind, resp, g, quiet, rob, every, src, rcs⟩ := t
  simp only at *
  subst hv h3 h2 hq hr he hs hp hz
  rfl
/-- A report or a leave of the elder versions and its bytes. -/
theorem back_old (t : TK) (ho : t.ok) (hv : t.v6 = false) (hc : (t.kind = 2 ∧ (t.ver = 1 ∨ t.ver = 2)) ∨ (t.kind = 3 ∧ t.ver = 2)) (hq : t.quiet = false) (hr : t.rob = 0) (he : t.every = 0) (hs : t.src = []) (hrc : t.rcs = []) (hp : t.resp = 0) (hg : grp8 t.g = true) :
    readT (wrtT t) = (t, 0) := by
  have hse : secT t = 0 := by unfold secT; rw [if_neg (by omega), hp]; rfl
  obtain ⟨b0, b1, bl, H, hH, hW⟩ := wrtT_parts t (kindT_lt t) (by omega)
  have hsum := wrtT_sum t
  have hR : restT t = adB t.g := by unfold restT; rw [if_neg (by omega), if_neg (by omega)]
  obtain ⟨g1, g2⟩ := grp_back (X := []) hH ho.1 (Or.inr hg)
  rw [show H ++ (adB t.g ++ []) = wrtT t by rw [hW, hR]; simp] at g1
  have hlen : (wrtT t).length = 8 := by rw [bl, hR, g2]
  have hk : kindT t = if t.kind = 3 then 23 else if t.ver = 1 then 18 else 22 := by
    unfold kindT
    rcases hc with ⟨h1, h2 | h2⟩ | ⟨h1, h2⟩ <;> simp [h1, h2]
  unfold readT
  rw [if_neg (by omega), if_neg (by rw [hsum]; simp), b0, hk, g1, if_neg (by split <;> (try split) <;> omega), if_neg (by split <;> (try split) <;> omega), if_pos (by split <;> (try split) <;> omega), if_neg (by rw [hg]; simp)]
  obtain ⟨v6, ver, kind, resp, g, quiet, rob, every, src, rcs⟩ := t
  simp only at *
  subst hv hq hr he hs hrc hp
  rcases hc with ⟨rfl, rfl | rfl⟩ | ⟨rfl, rfl⟩ <;> rfl
/-- A query of the elder versions. -/
theorem back_q12 (t : TK) (ho : t.ok) (hv : t.v6 = false) (hk1 : t.kind = 1) (hq : t.quiet = false) (hr : t.rob = 0) (he : t.every = 0) (hs : t.src = []) (hrc : t.rcs = [])
    (hc : (t.ver = 1 ∧ t.resp = 0 ∧ t.g = zeroA) ∨ (t.ver = 2 ∧ 0 < t.resp ∧ t.resp < 256 ∧ (t.g = zeroA ∨ grp8 t.g = true))) : readT (wrtT t) = (t, 0) := by
  have hse : secT t = t.resp.toNat := by unfold secT; rw [if_neg (by omega)]
  obtain ⟨b0, b1, bl, H, hH, hW⟩ := wrtT_parts t (kindT_lt t) (by omega)
  have hsum := wrtT_sum t
  have hR : restT t = adB t.g := by unfold restT; rw [if_neg (by omega), if_neg (by omega)]
  have hgg : t.g = zeroA ∨ grp8 t.g = true := by rcases hc with ⟨_, _, h⟩ | ⟨_, _, _, h⟩; exact Or.inl h; exact h
  obtain ⟨g1, g2⟩ := grp_back (X := []) hH ho.1 hgg
  rw [show H ++ (adB t.g ++ []) = wrtT t by rw [hW, hR]; simp] at g1
  have hlen : (wrtT t).length = 8 := by rw [bl, hR, g2]
  have hk : kindT t = 17 := by unfold kindT; rw [if_neg (by omega), if_neg (by omega)]
  unfold readT
  rw [if_neg (by omega), if_neg (by rw [hsum]; simp), b0, hk, if_pos rfl]
  unfold qry
  rw [g1, b1, hse, hlen, if_neg (by omega), if_neg (by rintro ⟨h1, h2⟩; rcases hgg with h | h; exact h1 h; rw [h] at h2; exact absurd h2 (by simp)), if_pos rfl]
  obtain ⟨v6, ver, kind, resp, g, quiet, rob, every, src, rcs⟩ := t
  simp only at *
  subst hv hk1 hq hr he hs hrc
  rcases hc with ⟨rfl, rfl, rfl⟩ | ⟨rfl, h1, h2, h3⟩
  · rfl
  · rw [if_neg (by omega)]
    simp
    omega
theorem exactN_parts {n : Int} {u m : Nat} (h : exactN n u m = true) : 0 ≤ n ∧ (valN (codeN n u m) u : Int) = n := by
  unfold exactN at h
  rw [decide_eq_true_eq] at h
  exact h
/-- A query of version 3. -/
theorem back_q3 (t : TK) (ho : t.ok) (hv : t.v6 = false) (h3 : t.ver = 3) (hk1 : t.kind = 1) (hrc : t.rcs = []) (hx : exactN t.resp 16 255 = true) (hy : exactN t.every 16 255 = true) (hr0 : 0 ≤ t.rob) (hr8 : t.rob < 8) (hs : srcs8 t.src = true)
    (hgg : t.g = zeroA ∨ grp8 t.g = true) (hz : t.g ≠ zeroA ∨ t.src.length = 0) : readT (wrtT t) = (t, 0) := by
  have hse : secT t = codeN t.resp 16 255 := by unfold secT; rw [if_pos ⟨hk1, h3⟩]
  have hc1 := codeN_le t.resp 16 255
  have hc2 := codeN_le t.every 16 255
  obtain ⟨x0, hx1⟩ := exactN_parts hx
  obtain ⟨y0, hy1⟩ := exactN_parts hy
  obtain ⟨b0, b1, bl, H, hH, hW⟩ := wrtT_parts t (kindT_lt t) (by omega)
  have hsum := wrtT_sum t
  unfold srcs8 at hs
  rw [Bool.and_eq_true, decide_eq_true_eq] at hs
  obtain ⟨hsa, hsl⟩ := hs
  have hR : restT t = adB t.g ++ (putL (flagT t) 1 ++ (putL (codeN t.every 16 255) 1 ++ (putL t.src.length 2 ++ listL t.src))) := by unfold restT; rw [if_neg (by omega), if_pos ⟨hk1, h3⟩]
  obtain ⟨r, hr⟩ := Int.eq_ofNat_of_zero_le hr0
  have hfl : flagT t = if t.quiet then r + 8 else r := by unfold flagT; rw [hr]; rfl
  have hflb : flagT t < 16 := by rw [hfl]; split <;> omega
  obtain ⟨g1, g2⟩ := grp_back (X := putL (flagT t) 1 ++ (putL (codeN t.every 16 255) 1 ++ (putL t.src.length 2 ++ listL t.src))) hH ho.1 hgg
  rw [← hR, ← hW] at g1
  have e8 : wrtT t = (H ++ adB t.g) ++ (putL (flagT t) 1 ++ (putL (codeN t.every 16 255) 1 ++ (putL t.src.length 2 ++ listL t.src))) := by rw [hW, hR]; simp
  have l8 : (H ++ adB t.g).length = 8 := by simp [hH, g2]
  have b8 : by8 (wrtT t) 8 = flagT t := by
    have := by8_at (H ++ adB t.g) (putL (flagT t) 1 ++ (putL (codeN t.every 16 255) 1 ++ (putL t.src.length 2 ++ listL t.src))) 0
    rw [← e8, l8] at this
    rw [show 8 = 8 + 0 from rfl, this, putL_one]
    exact ofNat_small (by omega)
  have b9 : by8 (wrtT t) 9 = codeN t.every 16 255 := by
    have := by8_at (H ++ adB t.g) (putL (flagT t) 1 ++ (putL (codeN t.every 16 255) 1 ++ (putL t.src.length 2 ++ listL t.src))) 1
    rw [← e8, l8] at this
    rw [show 9 = 8 + 1 from rfl, this, putL_one, putL_one]
    exact ofNat_small (by omega)
  have w10 : wd (wrtT t) 10 = t.src.length := by
    have := wd_at (H ++ adB t.g) (putL (flagT t) 1 ++ (putL (codeN t.every 16 255) 1 ++ (putL t.src.length 2 ++ listL t.src))) 2
    rw [← e8, l8] at this
    rw [show 10 = 8 + 2 from rfl, this, putL_one, putL_one, putL_tw]
    have h := num2_putL t.src.length (by omega)
    rw [putL_tw] at h
    exact h
  obtain ⟨s1, s2⟩ := srcs_back t.src ho.2.1 hsa (H ++ adB t.g ++ (putL (flagT t) 1 ++ (putL (codeN t.every 16 255) 1 ++ putL t.src.length 2))) []
  have l12 : (H ++ adB t.g ++ (putL (flagT t) 1 ++ (putL (codeN t.every 16 255) 1 ++ putL t.src.length 2))).length = 12 := by simp [hH, g2, putL_length]
  rw [l12, show H ++ adB t.g ++ (putL (flagT t) 1 ++ (putL (codeN t.every 16 255) 1 ++ putL t.src.length 2)) ++ (listL t.src ++ []) = wrtT t by rw [e8]; simp] at s1
  have hlen : (wrtT t).length = 12 + 4 * t.src.length := by rw [e8]; simp [hH, g2, putL_length, s2]; omega
  have hk : kindT t = 17 := by unfold kindT; rw [if_neg (by omega), if_neg (by omega)]
  unfold readT
  rw [if_neg (by omega), if_neg (by rw [hsum]; simp), b0, hk, if_pos rfl]
  unfold qry srcsE
  rw [g1, b1, hse, w10, b8, b9, hx1, hy1, s1, if_neg (by omega), if_neg (by rintro ⟨h1, h2⟩; rcases hgg with h | h; exact h1 h; rw [h] at h2; exact absurd h2 (by simp)), if_neg (by omega), if_neg (by rintro ⟨h1, h2⟩; rcases hz with h | h; exact h h1; omega), if_neg (show ¬ 64 < t.src.length by omega), if_neg (show ¬ (wrtT t).length < 12 + 4 * t.src.length by omega), if_neg (by simp)]
  have hq : decide (flagT t / 8 % 2 = 1) = t.quiet := by
    rw [hfl]
    cases t.quiet
    · rw [if_neg (by simp), decide_eq_false]; omega
    · rw [if_pos rfl, decide_eq_true]; omega
  have hm : ((flagT t % 8 : Nat) : Int) = t.rob := by
    rw [hfl, hr]
    split <;> omega
  rw [hq, hm]
  obtain ⟨v6, ver, kind, resp, g, quiet, rob, every, src, rcs⟩ := t
  simp only at *
  subst hv h3 hk1 hrc
  rfl
/-- What is read of a good talk's bytes. -/
theorem read_wrtT (t : TK) (ho : t.ok) (hg : good8 t = true) : readT (wrtT t) = (t, 0) := by
  unfold good8 at hg
  by_cases c1 : t.v6 = true ∨ t.ver < 1 ∨ 3 < t.ver ∨ t.kind < 1 ∨ 3 < t.kind
  · rw [if_pos c1] at hg; exact absurd hg (by simp)
  rw [if_neg c1] at hg
  have hv : t.v6 = false := by
    cases h : t.v6
    · rfl
    · exact absurd (Or.inl h) c1
  have d1 : 1 ≤ t.ver := by omega
  have d2 : t.ver ≤ 3 := by omega
  have d3 : 1 ≤ t.kind := by omega
  have d4 : t.kind ≤ 3 := by omega
  by_cases c2 : ¬ (t.ver = 3 ∧ t.kind = 1) ∧ (t.quiet = true ∨ t.rob ≠ 0 ∨ t.every ≠ 0 ∨ 0 < t.src.length)
  · rw [if_pos c2] at hg; exact absurd hg (by simp)
  rw [if_neg c2] at hg
  by_cases c3 : (t.kind ≠ 1 ∧ t.resp ≠ 0) ∨ (0 < t.rcs.length ∧ (t.ver < 3 ∨ t.kind ≠ 2))
  · rw [if_pos c3] at hg; exact absurd hg (by simp)
  rw [if_neg c3] at hg
  have hrest : ¬ (t.ver = 3 ∧ t.kind = 1) → t.quiet = false ∧ t.rob = 0 ∧ t.every = 0 ∧ t.src = [] := fun h => by
    have hn : ¬ (t.quiet = true ∨ t.rob ≠ 0 ∨ t.every ≠ 0 ∨ 0 < t.src.length) := fun h' => c2 ⟨h, h'⟩
    refine ⟨?_, by omega, by omega, List.eq_nil_of_length_eq_zero (by omega)⟩
    cases hq : t.quiet
    · rfl
    · exact absurd (Or.inl hq) hn
  have hresp : t.kind ≠ 1 → t.resp = 0 := fun h => by omega
  have hrcs : ¬ (t.ver = 3 ∧ t.kind = 2) → t.rcs = [] := fun h => List.eq_nil_of_length_eq_zero (by omega)
  by_cases k3 : t.kind = 3
  · rw [if_pos k3, Bool.and_eq_true, decide_eq_true_eq] at hg
    obtain ⟨q1, q2, q3, q4⟩ := hrest (by omega)
    exact back_old t ho hv (Or.inr ⟨k3, hg.1⟩) q1 q2 q3 q4 (hrcs (by omega)) (hresp (by omega)) hg.2
  rw [if_neg k3] at hg
  by_cases k2 : t.kind = 2 ∧ t.ver < 3
  · rw [if_pos k2] at hg
    obtain ⟨q1, q2, q3, q4⟩ := hrest (by omega)
    exact back_old t ho hv (Or.inl ⟨k2.1, by omega⟩) q1 q2 q3 q4 (hrcs (by omega)) (hresp (by omega)) hg
  rw [if_neg k2] at hg
  by_cases k2' : t.kind = 2
  · rw [if_pos k2', Bool.and_eq_true, Bool.and_eq_true, Bool.and_eq_true, decide_eq_true_eq, decide_eq_true_eq, decide_eq_true_eq] at hg
    obtain ⟨q1, q2, q3, q4⟩ := hrest (by omega)
    exact back_rep t ho hv (by omega) k2' q1 q2 q3 q4 (hresp (by omega)) hg.2.1 hg.1 hg.2.2.1
  rw [if_neg k2'] at hg
  by_cases v1 : t.ver = 1
  · rw [if_pos v1, Bool.and_eq_true, decide_eq_true_eq, decide_eq_true_eq] at hg
    obtain ⟨q1, q2, q3, q4⟩ := hrest (by omega)
    exact back_q12 t ho hv (by omega) q1 q2 q3 q4 (hrcs (by omega)) (Or.inl ⟨v1, hg.1, hg.2⟩)
  rw [if_neg v1] at hg
  by_cases cg : t.g ≠ zeroA ∧ grp8 t.g = false
  · rw [if_pos cg] at hg; exact absurd hg (by simp)
  rw [if_neg cg] at hg
  have hgg : t.g = zeroA ∨ grp8 t.g = true := by
    by_cases h : t.g = zeroA
    · exact Or.inl h
    · right
      cases h' : grp8 t.g
      · exact absurd ⟨h, h'⟩ cg
      · rfl
  by_cases v2 : t.ver = 2
  · rw [if_pos v2, decide_eq_true_eq] at hg
    obtain ⟨q1, q2, q3, q4⟩ := hrest (by omega)
    exact back_q12 t ho hv (by omega) q1 q2 q3 q4 (hrcs (by omega)) (Or.inr ⟨v2, hg.1, hg.2, hgg⟩)
  · rw [if_neg v2, Bool.and_eq_true, Bool.and_eq_true, Bool.and_eq_true, Bool.and_eq_true, decide_eq_true_eq, Bool.or_eq_true, decide_eq_true_eq, decide_eq_true_eq] at hg
    obtain ⟨m1, m2, ⟨m3, m4⟩, m5, m6⟩ := hg
    exact back_q3 t ho hv (by omega) (by omega) (hrcs (by omega)) m1 m2 m3 m4 m5 hgg m6
end Go.Proofs.Ytchbkamjmkfikaa
