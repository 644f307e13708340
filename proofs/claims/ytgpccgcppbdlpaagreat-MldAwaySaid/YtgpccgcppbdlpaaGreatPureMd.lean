/-
  Talks of MLD as bytes, plain: what bytes say, a talk's bytes, and that it comes back from them.
-/
import Derived.Test.YtgpccgcppbdlpaaGreatMg09
namespace Go.Proofs.YtgpccgcppbdlpaaGreat
open Go.RowKit
set_option linter.unusedVariables false

def z16 : List UInt8 := List.replicate 16 0
/-- Whether an address is a group's of IPv6; whether it is none's. -/
def grp9 (a : AD) : Bool := a.1 && grpV a.1 a.2
def zer9 (a : AD) : Bool := a.1 && decide (a.2 = z16)
def srcs9 (l : List AD) : Bool := l.all (·.1) && decide (l.length < 65)
def sixL (s : List UInt8) (i : Nat) : AD := (true, readV ((s.drop i).take 16))
def srcsL9 (s : List UInt8) (i n : Nat) : List AD := (List.range n).map fun k => sixL s (i + 16 * k)
def srcsE9 (s : List UInt8) (i n : Nat) : Int := if 64 < n then 6 else if s.length < i + 16 * n then 3 else 0
def rec9 (s : List UInt8) (i : Nat) : RC := ⟨by8 s i, sixL s (i + 4), srcsL9 s (i + 20) (wd s (i + 2))⟩
def recN9 (s : List UInt8) (i : Nat) : Nat := i + 20 + 16 * wd s (i + 2) + 4 * by8 s (i + 1)
def rcOk9 (r : RC) : Bool := decide (1 ≤ r.kind ∧ r.kind ≤ 6) && grp9 r.g
def recL9 (s : List UInt8) : Nat → Nat → List RC × Int
  | _, 0 => ([], 0)
  | i, n + 1 =>
    if s.length < i + 20 then ([], 3)
    else if srcsE9 s (i + 20) (wd s (i + 2)) ≠ 0 then ([], srcsE9 s (i + 20) (wd s (i + 2)))
    else if s.length < recN9 s i then ([], 3)
    else if (recL9 s (recN9 s i) n).2 ≠ 0 then ([], (recL9 s (recN9 s i) n).2)
    else (if rcOk9 (rec9 s i) then rec9 s i :: (recL9 s (recN9 s i) n).1 else (recL9 s (recN9 s i) n).1, 0)
/-- All but reports of records. -/
def one9 (s : List UInt8) : TK × Int :=
  if s.length < 24 then (zeroT, 3)
  else if by8 s 0 = 130 ∧ 24 < s.length ∧ s.length < 28 then (zeroT, 2)
  else if grp9 (sixL s 8) = false ∧ (by8 s 0 ≠ 130 ∨ zer9 (sixL s 8) = false) then (zeroT, 2)
  else if by8 s 0 ≠ 130 then (⟨true, 1, (by8 s 0 : Int) - 129, 0, sixL s 8, false, 0, 0, [], []⟩, 0)
  else if s.length = 24 then (⟨true, 1, 1, wd s 4, sixL s 8, false, 0, 0, [], []⟩, 0)
  else if zer9 (sixL s 8) = true ∧ 0 < wd s 26 then (zeroT, 2)
  else if srcsE9 s 28 (wd s 26) ≠ 0 then (zeroT, srcsE9 s 28 (wd s 26))
  else (⟨true, 2, 1, valN (wd s 4) 4096, sixL s 8, decide (by8 s 24 / 8 % 2 = 1), (by8 s 24 % 8 : Nat), valN (by8 s 25) 16, srcsL9 s 28 (wd s 26), []⟩, 0)
def readM (P s : List UInt8) : TK × Int :=
  if s.length < 8 then (zeroT, 3)
  else if foldN (wsum (P ++ s)) ≠ 65535 then (zeroT, 4)
  else if 130 ≤ by8 s 0 ∧ by8 s 0 ≤ 132 then one9 s
  else if by8 s 0 = 143 then
    if 64 < wd s 6 then (zeroT, 6)
    else if (recL9 s 8 (wd s 6)).2 ≠ 0 then (zeroT, (recL9 s 8 (wd s 6)).2)
    else (⟨true, 2, 2, 0, zeroA, false, 0, 0, [], (recL9 s 8 (wd s 6)).1⟩, 0)
  else (zeroT, 5)
/-- Whether a talk is good. -/
def sizeR9 (l : List RC) : Nat := (l.map fun r => 20 + 16 * r.src.length).sum + 8
def recOk9 (r : RC) : Bool := rcOk9 r && srcs9 r.src
def good9 (t : TK) : Bool :=
  if t.v6 = false ∨ t.ver < 1 ∨ 2 < t.ver ∨ t.kind < 1 ∨ 3 < t.kind ∨ (t.ver = 2 ∧ t.kind = 3) then false
  else if (¬ (t.ver = 2 ∧ t.kind = 1) ∧ (t.quiet = true ∨ t.rob ≠ 0 ∨ t.every ≠ 0 ∨ 0 < t.src.length)) ∨ (t.kind ≠ 1 ∧ t.resp ≠ 0) then false
  else if t.ver = 2 ∧ t.kind = 2 then t.rcs.all recOk9 && (decide (t.g.1 = false) && (decide (t.g.2 = z16) && (decide (t.rcs.length < 65) && decide (sizeR9 t.rcs < 1401))))
  else if 0 < t.rcs.length then false
  else if 1 < t.kind then grp9 t.g
  else if (zer9 t.g = false ∧ grp9 t.g = false) ∨ t.resp < 0 then false
  else if t.ver = 1 then decide (t.resp < 65536)
  else exactN t.resp 4096 65535 && (exactN t.every 16 255 && (decide (0 ≤ t.rob ∧ t.rob < 8) && (srcs9 t.src && (decide (zer9 t.g = false) || decide (t.src.length = 0)))))
/-- A talk's bytes. -/
def kindM (t : TK) : Nat := if t.kind = 2 ∧ t.ver = 2 then 143 else if 1 < t.kind then (129 + t.kind).toNat else 130
def respM (t : TK) : Nat := if t.kind = 1 ∧ t.ver = 2 then codeN t.resp 4096 65535 else t.resp.toNat
def restM (t : TK) : List UInt8 :=
  if t.kind = 2 ∧ t.ver = 2 then putL t.rcs.length 4 ++ (t.rcs.map recB).flatten
  else putL (respM t) 2 ++ ([0, 0] ++ (adB t.g ++ (if t.kind = 1 ∧ t.ver = 2 then putL (flagT t) 1 ++ (putL (codeN t.every 16 255) 1 ++ (putL t.src.length 2 ++ listL t.src)) else [])))
def headM (t : TK) : List UInt8 := putL (kindM t) 1 ++ [0]
def chkM (P : List UInt8) (t : TK) : Nat := 65535 - foldN (wsum (P ++ (headM t ++ restM t)))
def wrtM (P : List UInt8) (t : TK) : List UInt8 := headM t ++ (putL (chkM P t) 2 ++ restM t)
theorem headM_length (t : TK) : (headM t).length = 2 := by unfold headM; simp [putL_length]
theorem wrtM_length (P : List UInt8) (t : TK) : (wrtM P t).length = 4 + (restM t).length := by unfold wrtM; simp [putL_length, headM_length]; omega
theorem wrtM_sum (P : List UInt8) (hP : P.length % 2 = 0) (t : TK) : foldN (wsum (P ++ wrtM P t)) = 65535 := by
  unfold wrtM
  have h1 := headM_length t
  rw [wsum_append _ _ hP, wsum_append _ _ (by omega), wsum_append _ _ (by rw [putL_length]), wsum_put2 _ (by unfold chkM; omega)]
  unfold chkM
  rw [wsum_append _ _ hP, wsum_append _ _ (by omega)]
  have := check_good (wsum P + (wsum (headM t) + wsum (restM t)))
  rw [show wsum P + (wsum (headM t) + (65535 - foldN (wsum P + (wsum (headM t) + wsum (restM t))) + wsum (restM t))) = wsum P + (wsum (headM t) + wsum (restM t)) + (65535 - foldN (wsum P + (wsum (headM t) + wsum (restM t)))) by omega]
  exact this
/-- Addresses of IPv6 as bytes and back. -/
theorem six_back {a : AD} (ho : adOk a) (hv : a.1 = true) (pre post : List UInt8) : sixL (pre ++ (adB a ++ post)) pre.length = a ∧ (adB a).length = 16 := by
  obtain ⟨v, l⟩ := a
  simp only at hv
  subst hv
  have hl : l.length = 16 := ho
  have hb : adB (true, l) = l := rfl
  refine ⟨?_, by rw [hb]; exact hl⟩
  unfold sixL
  rw [List.drop_left, hb, take_app hl]
  unfold readV
  rw [hl]
  simp
theorem srcs_back9 (l : List AD) (ho : ∀ a ∈ l, adOk a) (hs : l.all (·.1) = true) : ∀ (pre post : List UInt8), srcsL9 (pre ++ (listL l ++ post)) pre.length l.length = l ∧ (listL l).length = 16 * l.length := by
  induction l with
  | nil => intro pre post; exact ⟨rfl, rfl⟩
  | cons a r ih =>
    intro pre post
    rw [List.all_cons, Bool.and_eq_true] at hs
    obtain ⟨h1, h2⟩ := hs
    obtain ⟨f1, f2⟩ := six_back (ho a (by simp)) h1 pre (listL r ++ post)
    obtain ⟨g1, g2⟩ := ih (fun b hb => ho b (by simp [hb])) h2 (pre ++ adB a) post
    have hc : listL (a :: r) = adB a ++ listL r := by simp [listL]
    constructor
    · rw [hc]
      unfold srcsL9 at g1 ⊢
      rw [List.length_cons, List.range_succ_eq_map, List.map_cons, List.map_map]
      rw [show pre ++ (adB a ++ listL r ++ post) = pre ++ (adB a ++ (listL r ++ post)) by simp, Nat.mul_zero, Nat.add_zero, f1]
      congr 1
      rw [show pre ++ adB a ++ (listL r ++ post) = pre ++ (adB a ++ (listL r ++ post)) by simp, List.length_append, f2] at g1
      refine Eq.trans (List.map_congr_left fun k hk => ?_) g1
      show sixL _ (pre.length + 16 * (k + 1)) = sixL _ (pre.length + 16 + 16 * k)
      congr 1
      omega
    · rw [hc, List.length_append, f2, g2, List.length_cons]; omega
theorem grp9_v {a : AD} (h : grp9 a = true) : a.1 = true := by
  unfold grp9 at h
  rw [Bool.and_eq_true] at h
  exact h.1
theorem zer9_v {a : AD} (h : zer9 a = true) : a.1 = true := by
  unfold zer9 at h
  rw [Bool.and_eq_true] at h
  exact h.1
/-- One record at a place. -/
theorem rec_at9 (r : RC) (ho : adOk r.g ∧ ∀ a ∈ r.src, adOk a) (hr : recOk9 r = true) (pre post : List UInt8) (s : List UInt8) (hs : s = pre ++ (recB r ++ post)) :
    rec9 s pre.length = r ∧ recN9 s pre.length = (pre ++ recB r).length ∧ srcsE9 s (pre.length + 20) (wd s (pre.length + 2)) = 0 ∧ pre.length + 20 ≤ s.length ∧ recN9 s pre.length ≤ s.length ∧ rcOk9 (rec9 s pre.length) = true := by
  unfold recOk9 at hr
  rw [Bool.and_eq_true] at hr
  obtain ⟨h1, h2⟩ := hr
  have hrc := h1
  unfold rcOk9 at h1
  rw [Bool.and_eq_true, decide_eq_true_eq] at h1
  obtain ⟨⟨k1, k6⟩, hg⟩ := h1
  unfold srcs9 at h2
  rw [Bool.and_eq_true, decide_eq_true_eq] at h2
  obtain ⟨hsr, h64⟩ := h2
  have gv := grp9_v hg
  obtain ⟨kind, g, src⟩ := r
  simp only at *
  obtain ⟨k, rfl⟩ := Int.eq_ofNat_of_zero_le (show 0 ≤ kind by omega)
  have hB := recB_eq ⟨(k : Int), g, src⟩
  simp only [Int.toNat_natCast] at hB
  obtain ⟨H, hH⟩ : ∃ H : List UInt8, H = [UInt8.ofNat k, 0, UInt8.ofNat (src.length / 256), UInt8.ofNat src.length] := ⟨_, rfl⟩
  rw [← hH] at hB
  have hH4 : H.length = 4 := by rw [hH]; rfl
  obtain ⟨f1, f2⟩ := six_back ho.1 gv (pre ++ H) (listL src ++ post)
  obtain ⟨s1, s2⟩ := srcs_back9 src ho.2 hsr (pre ++ H ++ adB g) post
  have hs1 : s = pre ++ H ++ (adB g ++ (listL src ++ post)) := by rw [hs, hB]; simp
  have hs2 : s = pre ++ H ++ adB g ++ (listL src ++ post) := by rw [hs, hB]; simp
  have hs3 : s = pre ++ (H ++ (adB g ++ (listL src ++ post))) := by rw [hs, hB]; simp
  rw [← hs1, List.length_append, hH4] at f1
  rw [← hs2, List.length_append, List.length_append, hH4, f2] at s1
  have b0 : by8 s pre.length = k := by
    have := by8_at pre (H ++ (adB g ++ (listL src ++ post))) 0
    rw [← hs3, Nat.add_zero] at this
    rw [this, hH]
    exact ofNat_small (by omega)
  have b1 : by8 s (pre.length + 1) = 0 := by
    have := by8_at pre (H ++ (adB g ++ (listL src ++ post))) 1
    rw [← hs3] at this
    rw [this, hH]
    rfl
  have w2 : wd s (pre.length + 2) = src.length := by
    have := wd_at pre (H ++ (adB g ++ (listL src ++ post))) 2
    rw [← hs3] at this
    rw [this, hH]
    have h := num2_putL src.length (by omega)
    rw [putL_tw] at h
    exact h
  have hlen : s.length = pre.length + 20 + 16 * src.length + post.length := by
    rw [hs1]; simp [hH4, f2, s2]; omega
  have hRl : (pre ++ recB ⟨(k : Int), g, src⟩).length = pre.length + 20 + 16 * src.length := by
    rw [hB]; simp [hH4, f2, s2]; omega
  have hrec : rec9 s pre.length = ⟨(k : Int), g, src⟩ := by
    unfold rec9
    rw [b0, f1, w2, s1]
  refine ⟨hrec, ?_, ?_, by omega, ?_, by rw [hrec]; exact hrc⟩
  · unfold recN9; rw [w2, b1, hRl]; omega
  · unfold srcsE9; rw [w2, if_neg (by omega), if_neg (by omega)]
  · unfold recN9; rw [w2, b1]; omega
theorem recs_back9 (l : List RC) (ho : ∀ r ∈ l, adOk r.g ∧ ∀ a ∈ r.src, adOk a) (hr : l.all recOk9 = true) : ∀ (pre post : List UInt8), recL9 (pre ++ ((l.map recB).flatten ++ post)) pre.length l.length = (l, 0) := by
  induction l with
  | nil => intro pre post; rfl
  | cons r q ih =>
    intro pre post
    rw [List.all_cons, Bool.and_eq_true] at hr
    have hs : pre ++ (((r :: q).map recB).flatten ++ post) = pre ++ (recB r ++ ((q.map recB).flatten ++ post)) := by simp
    obtain ⟨e1, e2, e3, e4, e5, e6⟩ := rec_at9 r (ho r (by simp)) hr.1 pre ((q.map recB).flatten ++ post) _ hs
    have hi := ih (fun x hx => ho x (by simp [hx])) hr.2 (pre ++ recB r) post
    rw [show pre ++ recB r ++ ((q.map recB).flatten ++ post) = pre ++ (((r :: q).map recB).flatten ++ post) by simp, ← e2] at hi
    generalize pre ++ (((r :: q).map recB).flatten ++ post) = s at *
    rw [List.length_cons]
    unfold recL9
    rw [if_neg (by omega), if_neg (by rw [e3]; simp), if_neg (by omega), hi, if_neg (by simp), e1, if_pos (by rw [← e1]; exact e6)]
/-- What stands where in a talk's bytes. -/
theorem wrtM_parts (P : List UInt8) (t : TK) (hk : kindM t < 256) : by8 (wrtM P t) 0 = kindM t ∧ ∃ H : List UInt8, H.length = 4 ∧ wrtM P t = H ++ restM t := by
  have e : wrtM P t = [UInt8.ofNat (kindM t), 0, UInt8.ofNat (chkM P t / 256), UInt8.ofNat (chkM P t)] ++ restM t := by
    unfold wrtM headM
    rw [putL_one, putL_tw]
    simp
  refine ⟨?_, _, rfl, e⟩
  rw [e]; exact ofNat_small hk
/-- A report of version 2 and its bytes. -/
theorem back9_rep (P : List UInt8) (hP : P.length % 2 = 0) (t : TK) (ho : t.ok) (hv : t.v6 = true) (h3 : t.ver = 2) (h2 : t.kind = 2) (hq : t.quiet = false) (hr : t.rob = 0) (he : t.every = 0) (hs : t.src = []) (hp : t.resp = 0) (hz : t.g = zeroA) (hrc : t.rcs.all recOk9 = true) (hl : t.rcs.length < 65) :
    readM P (wrtM P t) = (t, 0) := by
  have hk : kindM t = 143 := by unfold kindM; rw [if_pos ⟨h2, h3⟩]
  obtain ⟨b0, H, hH, hW⟩ := wrtM_parts P t (by omega)
  have bl := wrtM_length P t
  have hsum := wrtM_sum P hP t
  have hR : restM t = putL t.rcs.length 4 ++ (t.rcs.map recB).flatten := by unfold restM; rw [if_pos ⟨h2, h3⟩]
  have hp4 : putL t.rcs.length 4 = [0, 0] ++ putL t.rcs.length 2 := by
    rw [putL_tw]
    simp only [putL, List.cons_append, List.nil_append, List.cons.injEq, and_true]
    refine ⟨?_, ?_, ?_, ?_⟩ <;>
    first
    | trivial
    | (apply UInt8.toNat_inj.1
       simp only [UInt8.toNat_ofNat', UInt8.toNat_zero]
       omega)
  have hw6 : wd (wrtM P t) 6 = t.rcs.length := by
    rw [hW, hR, hp4]
    have := wd_at (H ++ [0, 0]) (putL t.rcs.length 2 ++ (t.rcs.map recB).flatten) 0
    have h6 : (H ++ ([0, 0] : List UInt8)).length + 0 = 6 := by simp [hH]
    rw [h6] at this
    rw [show H ++ ([0, 0] ++ putL t.rcs.length 2 ++ (t.rcs.map recB).flatten) = H ++ [0, 0] ++ (putL t.rcs.length 2 ++ (t.rcs.map recB).flatten) by simp, this]
    unfold wd
    rw [List.drop_zero, take_app (putL_length _ 2), num2_putL _ (by omega)]
  have hrec : recL9 (wrtM P t) 8 t.rcs.length = (t.rcs, 0) := by
    have := recs_back9 t.rcs ho.2.2 hrc (H ++ putL t.rcs.length 4) []
    rw [show (H ++ putL t.rcs.length 4).length = 8 by simp [hH, putL_length], show H ++ putL t.rcs.length 4 ++ ((t.rcs.map recB).flatten ++ []) = wrtM P t by rw [hW, hR]; simp] at this
    exact this
  have hlen : 8 ≤ (wrtM P t).length := by rw [bl, hR, List.length_append, putL_length]; omega
  unfold readM
  rw [if_neg (by omega), if_neg (by rw [hsum]; simp), b0, hk, if_neg (by omega), if_pos rfl, hw6, if_neg (by omega), hrec, if_neg (by simp)]
  obtain ⟨v6, ver, kind, resp, g, quiet, rob, every, src, rcs⟩ := t
  simp only at *
  subst hv h3 h2 hq hr he hs hp hz
  rfl
/-- The parts of all but reports of records. -/
theorem one_parts (P : List UInt8) (t : TK) (ho : adOk t.g) (hv : t.g.1 = true) (hn : ¬ (t.kind = 2 ∧ t.ver = 2)) (hrb : respM t < 65536) (X : List UInt8) (hX : X = if t.kind = 1 ∧ t.ver = 2 then putL (flagT t) 1 ++ (putL (codeN t.every 16 255) 1 ++ (putL t.src.length 2 ++ listL t.src)) else [])
    (hk : kindM t < 256) : wd (wrtM P t) 4 = respM t ∧ sixL (wrtM P t) 8 = t.g ∧ (wrtM P t).length = 24 + X.length ∧ ∃ H : List UInt8, H.length = 24 ∧ wrtM P t = H ++ X := by
  obtain ⟨_, H, hH, hW⟩ := wrtM_parts P t hk
  have hR : restM t = putL (respM t) 2 ++ ([0, 0] ++ (adB t.g ++ X)) := by unfold restM; rw [if_neg hn, ← hX]
  obtain ⟨f1, f2⟩ := six_back ho hv (H ++ (putL (respM t) 2 ++ [0, 0])) X
  have e1 : wrtM P t = H ++ (putL (respM t) 2 ++ [0, 0]) ++ (adB t.g ++ X) := by rw [hW, hR]; simp
  have l1 : (H ++ (putL (respM t) 2 ++ [0, 0])).length = 8 := by simp [hH, putL_length]
  rw [← e1, l1] at f1
  refine ⟨?_, f1, ?_, H ++ (putL (respM t) 2 ++ [0, 0]) ++ adB t.g, ?_, by rw [e1]; simp⟩
  · rw [hW, hR]
    have := wd_at H (putL (respM t) 2 ++ ([0, 0] ++ (adB t.g ++ X))) 0
    rw [hH] at this
    rw [show 4 = 4 + 0 from rfl, this]
    unfold wd
    rw [List.drop_zero, take_app (putL_length _ 2), num2_putL _ hrb]
  · rw [e1, List.length_append, l1, List.length_append, f2]; omega
  · rw [List.length_append, l1, f2]
theorem kindM_one {t : TK} (h1 : t.kind = 1) : kindM t = 130 := by unfold kindM; rw [if_neg (by omega), if_neg (by omega)]
/-- A report or a leave of version 1. -/
theorem back9_old (P : List UInt8) (hP : P.length % 2 = 0) (t : TK) (ho : t.ok) (hv : t.v6 = true) (h1 : t.ver = 1) (hk : t.kind = 2 ∨ t.kind = 3) (hq : t.quiet = false) (hr : t.rob = 0) (he : t.every = 0) (hs : t.src = []) (hrc : t.rcs = []) (hp : t.resp = 0) (hg : grp9 t.g = true) :
    readM P (wrtM P t) = (t, 0) := by
  have hkk : kindM t = (129 + t.kind).toNat := by unfold kindM; rw [if_neg (by omega), if_pos (by omega)]
  have hre : respM t = 0 := by unfold respM; rw [if_neg (by omega), hp]; rfl
  obtain ⟨b0, _⟩ := wrtM_parts P t (by omega)
  obtain ⟨p1, p2, p3, H, hH, hW⟩ := one_parts P t ho.1 (grp9_v hg) (by omega) (by omega) [] (by rw [if_neg (by omega)]) (by omega)
  have hsum := wrtM_sum P hP t
  have hlen : (wrtM P t).length = 24 := by simpa using p3
  unfold readM
  rw [if_neg (by omega), if_neg (by rw [hsum]; simp), b0, if_pos (by omega)]
  unfold one9
  rw [p2, b0, hg, if_neg (by omega), if_neg (by omega), if_neg (by rintro ⟨h, _⟩; exact absurd h (by simp)), if_pos (by omega)]
  have hki : ((kindM t : Nat) : Int) - 129 = t.kind := by rw [hkk]; omega
  rw [hki]
  obtain ⟨v6, ver, kind, resp, g, quiet, rob, every, src, rcs⟩ := t
  simp only at *
  subst hv h1 hq hr he hs hrc hp
  rfl
/-- A query of version 1. -/
theorem back9_q1 (P : List UInt8) (hP : P.length % 2 = 0) (t : TK) (ho : t.ok) (hv : t.v6 = true) (h1 : t.ver = 1) (hk : t.kind = 1) (hq : t.quiet = false) (hr : t.rob = 0) (he : t.every = 0) (hs : t.src = []) (hrc : t.rcs = []) (hp0 : 0 ≤ t.resp) (hp : t.resp < 65536) (hg : zer9 t.g = true ∨ grp9 t.g = true) :
    readM P (wrtM P t) = (t, 0) := by
  have hgv : t.g.1 = true := by rcases hg with h | h; exact zer9_v h; exact grp9_v h
  have hkk := kindM_one hk
  have hre : respM t = t.resp.toNat := by unfold respM; rw [if_neg (by omega)]
  obtain ⟨b0, _⟩ := wrtM_parts P t (by omega)
  obtain ⟨p1, p2, p3, H, hH, hW⟩ := one_parts P t ho.1 hgv (by omega) (by omega) [] (by rw [if_neg (by omega)]) (by omega)
  have hsum := wrtM_sum P hP t
  have hlen : (wrtM P t).length = 24 := by simpa using p3
  unfold readM
  rw [if_neg (by omega), if_neg (by rw [hsum]; simp), b0, if_pos (by omega)]
  unfold one9
  rw [p2, p1, b0, hkk, if_neg (by omega), if_neg (by omega), if_neg (by rintro ⟨h3, h4 | h4⟩; exact h4 rfl; rcases hg with h | h; rw [h] at h4; exact absurd h4 (by simp); rw [h] at h3; exact absurd h3 (by simp)), if_neg (by simp), if_pos hlen, hre]
  have hki : ((t.resp.toNat : Nat) : Int) = t.resp := by omega
  rw [hki]
  obtain ⟨v6, ver, kind, resp, g, quiet, rob, every, src, rcs⟩ := t
  simp only at *
  subst hv h1 hk hq hr he hs hrc
  rfl
/-- A query of version 2. -/
theorem back9_q2 (P : List UInt8) (hP : P.length % 2 = 0) (t : TK) (ho : t.ok) (hv : t.v6 = true) (h2 : t.ver = 2) (hk : t.kind = 1) (hrc : t.rcs = []) (hx : exactN t.resp 4096 65535 = true) (hy : exactN t.every 16 255 = true) (hr0 : 0 ≤ t.rob) (hr8 : t.rob < 8) (hs : srcs9 t.src = true)
    (hg : zer9 t.g = true ∨ grp9 t.g = true) (hz : zer9 t.g = false ∨ t.src.length = 0) : readM P (wrtM P t) = (t, 0) := by
  have hgv : t.g.1 = true := by rcases hg with h | h; exact zer9_v h; exact grp9_v h
  have hkk := kindM_one hk
  have hre : respM t = codeN t.resp 4096 65535 := by unfold respM; rw [if_pos ⟨hk, h2⟩]
  have hc1 := codeN_le t.resp 4096 65535
  have hc2 := codeN_le t.every 16 255
  obtain ⟨x0, hx1⟩ := exactN_parts hx
  obtain ⟨y0, hy1⟩ := exactN_parts hy
  unfold srcs9 at hs
  rw [Bool.and_eq_true, decide_eq_true_eq] at hs
  obtain ⟨hsa, hsl⟩ := hs
  obtain ⟨b0, _⟩ := wrtM_parts P t (by omega)
  obtain ⟨X, hX⟩ : ∃ X, X = putL (flagT t) 1 ++ (putL (codeN t.every 16 255) 1 ++ (putL t.src.length 2 ++ listL t.src)) := ⟨_, rfl⟩
  obtain ⟨p1, p2, p3, H, hH, hW⟩ := one_parts P t ho.1 hgv (by omega) (by omega) X (by rw [if_pos ⟨hk, h2⟩]; exact hX) (by omega)
  have hsum := wrtM_sum P hP t
  obtain ⟨r, hr⟩ := Int.eq_ofNat_of_zero_le hr0
  have hfl : flagT t = if t.quiet then r + 8 else r := by unfold flagT; rw [hr]; rfl
  have hflb : flagT t < 16 := by rw [hfl]; split <;> omega
  obtain ⟨s1, s2⟩ := srcs_back9 t.src ho.2.1 hsa (H ++ (putL (flagT t) 1 ++ (putL (codeN t.every 16 255) 1 ++ putL t.src.length 2))) []
  have l28 : (H ++ (putL (flagT t) 1 ++ (putL (codeN t.every 16 255) 1 ++ putL t.src.length 2))).length = 28 := by simp [hH, putL_length]
  rw [l28, show H ++ (putL (flagT t) 1 ++ (putL (codeN t.every 16 255) 1 ++ putL t.src.length 2)) ++ (listL t.src ++ []) = wrtM P t by rw [hW, hX]; simp] at s1
  have hXl : X.length = 4 + 16 * t.src.length := by rw [hX]; simp [putL_length, s2]; omega
  have b24 : by8 (wrtM P t) 24 = flagT t := by
    have := by8_at H X 0
    rw [← hW, hH] at this
    rw [show 24 = 24 + 0 from rfl, this, hX, putL_one]
    exact ofNat_small (by omega)
  have b25 : by8 (wrtM P t) 25 = codeN t.every 16 255 := by
    have := by8_at H X 1
    rw [← hW, hH] at this
    rw [show 25 = 24 + 1 from rfl, this, hX, putL_one, putL_one]
    exact ofNat_small (by omega)
  have w26 : wd (wrtM P t) 26 = t.src.length := by
    have := wd_at H X 2
    rw [← hW, hH] at this
    rw [show 26 = 24 + 2 from rfl, this, hX, putL_one, putL_one, putL_tw]
    have h := num2_putL t.src.length (by omega)
    rw [putL_tw] at h
    exact h
  unfold readM
  rw [if_neg (by omega), if_neg (by rw [hsum]; simp), b0, if_pos (by omega)]
  unfold one9 srcsE9
  rw [p2, p1, b0, hkk, hre, b24, b25, w26, hx1, hy1, s1, if_neg (by omega), if_neg (by omega), if_neg (by rintro ⟨h3, h4 | h4⟩; exact h4 rfl; rcases hg with h | h; rw [h] at h4; exact absurd h4 (by simp); rw [h] at h3; exact absurd h3 (by simp)), if_neg (by simp), if_neg (by omega),
    if_neg (by rintro ⟨h1, h2⟩; rcases hz with h | h; rw [h] at h1; exact absurd h1 (by simp); omega), if_neg (show ¬ 64 < t.src.length by omega), if_neg (show ¬ (wrtM P t).length < 28 + 16 * t.src.length by omega), if_neg (by simp)]
  have hq : decide (flagT t / 8 % 2 = 1) = t.quiet := by
    rw [hfl]
    cases t.quiet
    · rw [if_neg (by simp), decide_eq_false]; omega
    · rw [if_pos rfl, decide_eq_true]; omega
  have hm : ((flagT t % 8 : Nat) : Int) = t.rob := by
    rw [hfl, hr]
    split <;> omega
  rw [hq, hm]
  obtain ⟨v6, ver, kind, resp, g, quiet, rob, every, src, rcs⟩ := t
  simp only at *
  subst hv h2 hk hrc
  rfl
/-- What a good talk is, by version and kind. -/
theorem good9_cases (t : TK) (hg : good9 t = true) : t.v6 = true ∧
    ((t.ver = 2 ∧ t.kind = 2 ∧ t.resp = 0 ∧ t.g = zeroA ∧ t.rcs.all recOk9 = true ∧ t.rcs.length < 65 ∧ sizeR9 t.rcs < 1401 ∧ t.quiet = false ∧ t.rob = 0 ∧ t.every = 0 ∧ t.src = []) ∨
     (t.ver = 1 ∧ (t.kind = 2 ∨ t.kind = 3) ∧ t.resp = 0 ∧ grp9 t.g = true ∧ t.rcs = [] ∧ t.quiet = false ∧ t.rob = 0 ∧ t.every = 0 ∧ t.src = []) ∨
     (t.ver = 1 ∧ t.kind = 1 ∧ 0 ≤ t.resp ∧ t.resp < 65536 ∧ (zer9 t.g = true ∨ grp9 t.g = true) ∧ t.rcs = [] ∧ t.quiet = false ∧ t.rob = 0 ∧ t.every = 0 ∧ t.src = []) ∨
     (t.ver = 2 ∧ t.kind = 1 ∧ exactN t.resp 4096 65535 = true ∧ exactN t.every 16 255 = true ∧ 0 ≤ t.rob ∧ t.rob < 8 ∧ srcs9 t.src = true ∧ (zer9 t.g = true ∨ grp9 t.g = true) ∧ (zer9 t.g = false ∨ t.src.length = 0) ∧ t.rcs = [])) := by
  unfold good9 at hg
  by_cases c1 : t.v6 = false ∨ t.ver < 1 ∨ 2 < t.ver ∨ t.kind < 1 ∨ 3 < t.kind ∨ (t.ver = 2 ∧ t.kind = 3)
  · rw [if_pos c1] at hg; exact absurd hg (by simp)
  rw [if_neg c1] at hg
  have hv : t.v6 = true := by
    cases h : t.v6
    · exact absurd (Or.inl h) c1
    · rfl
  refine ⟨hv, ?_⟩
  have d1 : 1 ≤ t.ver := by omega
  have d2 : t.ver ≤ 2 := by omega
  have d3 : 1 ≤ t.kind := by omega
  have d4 : t.kind ≤ 3 := by omega
  have d5 : ¬ (t.ver = 2 ∧ t.kind = 3) := fun h => c1 (by omega)
  by_cases c2 : (¬ (t.ver = 2 ∧ t.kind = 1) ∧ (t.quiet = true ∨ t.rob ≠ 0 ∨ t.every ≠ 0 ∨ 0 < t.src.length)) ∨ (t.kind ≠ 1 ∧ t.resp ≠ 0)
  · rw [if_pos c2] at hg; exact absurd hg (by simp)
  rw [if_neg c2] at hg
  have hrest : ¬ (t.ver = 2 ∧ t.kind = 1) → t.quiet = false ∧ t.rob = 0 ∧ t.every = 0 ∧ t.src = [] := fun h => by
    have hn : ¬ (t.quiet = true ∨ t.rob ≠ 0 ∨ t.every ≠ 0 ∨ 0 < t.src.length) := fun h' => c2 (Or.inl ⟨h, h'⟩)
    refine ⟨?_, by omega, by omega, List.eq_nil_of_length_eq_zero (by omega)⟩
    cases hq : t.quiet
    · rfl
    · exact absurd (Or.inl hq) hn
  have hresp : t.kind ≠ 1 → t.resp = 0 := fun h => by
    refine Decidable.byContradiction fun hn => c2 (Or.inr ⟨h, hn⟩)
  by_cases k2 : t.ver = 2 ∧ t.kind = 2
  · rw [if_pos k2, Bool.and_eq_true, Bool.and_eq_true, Bool.and_eq_true, Bool.and_eq_true, decide_eq_true_eq, decide_eq_true_eq, decide_eq_true_eq, decide_eq_true_eq] at hg
    obtain ⟨q1, q2, q3, q4⟩ := hrest (by omega)
    exact Or.inl ⟨k2.1, k2.2, hresp (by omega), Prod.ext hg.2.1 hg.2.2.1, hg.1, hg.2.2.2.1, hg.2.2.2.2, q1, q2, q3, q4⟩
  rw [if_neg k2] at hg
  by_cases k0 : 0 < t.rcs.length
  · rw [if_pos k0] at hg; exact absurd hg (by simp)
  rw [if_neg k0] at hg
  have hrc : t.rcs = [] := List.eq_nil_of_length_eq_zero (by omega)
  by_cases k1 : 1 < t.kind
  · rw [if_pos k1] at hg
    obtain ⟨q1, q2, q3, q4⟩ := hrest (by omega)
    exact Or.inr (Or.inl ⟨by omega, by omega, hresp (by omega), hg, hrc, q1, q2, q3, q4⟩)
  rw [if_neg k1] at hg
  by_cases cg : (zer9 t.g = false ∧ grp9 t.g = false) ∨ t.resp < 0
  · rw [if_pos cg] at hg; exact absurd hg (by simp)
  rw [if_neg cg] at hg
  have hgg : zer9 t.g = true ∨ grp9 t.g = true := by
    cases h : zer9 t.g
    · cases h' : grp9 t.g
      · exact absurd (Or.inl ⟨h, h'⟩) cg
      · exact Or.inr rfl
    · exact Or.inl rfl
  by_cases v1 : t.ver = 1
  · rw [if_pos v1, decide_eq_true_eq] at hg
    obtain ⟨q1, q2, q3, q4⟩ := hrest (by omega)
    exact Or.inr (Or.inr (Or.inl ⟨v1, by omega, by omega, hg, hgg, hrc, q1, q2, q3, q4⟩))
  · rw [if_neg v1, Bool.and_eq_true, Bool.and_eq_true, Bool.and_eq_true, Bool.and_eq_true, decide_eq_true_eq, Bool.or_eq_true, decide_eq_true_eq, decide_eq_true_eq] at hg
    obtain ⟨m1, m2, ⟨m3, m4⟩, m5, m6⟩ := hg
    exact Or.inr (Or.inr (Or.inr ⟨by omega, by omega, m1, m2, m3, m4, m5, hgg, m6, hrc⟩))
/-- What is read of a good talk's bytes. -/
theorem read_wrtM (P : List UInt8) (hP : P.length % 2 = 0) (t : TK) (ho : t.ok) (hg : good9 t = true) : readM P (wrtM P t) = (t, 0) := by
  obtain ⟨hv, h | h | h | h⟩ := good9_cases t hg
  · obtain ⟨a1, a2, a3, a4, a5, a6, _, a7, a8, a9, aa⟩ := h
    exact back9_rep P hP t ho hv a1 a2 a7 a8 a9 aa a3 a4 a5 a6
  · obtain ⟨a1, a2, a3, a4, a5, a6, a7, a8, a9⟩ := h
    exact back9_old P hP t ho hv a1 a2 a6 a7 a8 a9 a5 a3 a4
  · obtain ⟨a1, a2, a3, a4, a5, a6, a7, a8, a9, aa⟩ := h
    exact back9_q1 P hP t ho hv a1 a2 a7 a8 a9 aa a6 a3 a4 a5
  · obtain ⟨a1, a2, a3, a4, a5, a6, a7, a8, a9, aa⟩ := h
    exact back9_q2 P hP t ho hv a1 a2 aa a3 a4 a5 a6 a7 a8 a9
end Go.Proofs.YtgpccgcppbdlpaaGreat
