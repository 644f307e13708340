/-
  Texts joined: PureDig, Rprint.
-/
import Derived.Test.YtalnfjnfcloonaaGreatDoorMg31
import Derived.Test.YtalnfjnfcloonaaGreatDoorMg26
import Derived.Test.YtalnfjnfcloonaaGreatDoorMg34
import Derived.Test.YtalnfjnfcloonaaGreatDoorMg12
/-
  Digits are read back, and texts of them are parted again: plain mathematics.
-/
namespace Go.Proofs.YtalnfjnfcloonaaGreatDoor
open Go.RowKit
set_option linter.unusedVariables false

def D16 (n : Nat) : List UInt8 := numD 16 n
theorem D16_len (n : Nat) : (D16 n).length ≤ 5 := numD_length 16 n
theorem digL_ne58 (n : Nat) (h : n < 16) : digL n ≠ 58 := by
  intro e
  have h1 := digL_toNat n h
  rw [e] at h1
  have : (58 : UInt8).toNat = 58 := rfl
  rw [this] at h1
  split at h1 <;> omega
theorem digs_ends : ∀ (f n : Nat), Ends (digs 16 (f + 1) n)
  | 0, n => by
    unfold digs
    split
    · rename_i h; exact ⟨[], digL n, rfl, digL_ne58 n h⟩
    · exact ⟨digs 16 0 (n / 16), digL (n % 16), rfl, digL_ne58 _ (Nat.mod_lt _ (by omega))⟩
  | f + 1, n => by
    unfold digs
    split
    · rename_i h; exact ⟨[], digL n, rfl, digL_ne58 n h⟩
    · exact ⟨digs 16 (f + 1) (n / 16), digL (n % 16), rfl, digL_ne58 _ (Nat.mod_lt _ (by omega))⟩
theorem D16_ends (n : Nat) : Ends (D16 n) := digs_ends 4 n

theorem dig36_digL (n : Nat) (h : n < 16) : dig36 (digL n).toNat = some n := by
  have : ∀ x : Fin 16, dig36 (digL x.val).toNat = some x.val := by decide +kernel
  exact this ⟨n, h⟩
theorem puL_snoc (b mx d : Nat) (hd : d < b) (hb : b ≤ 16) : ∀ (l : List UInt8) (acc v : Nat), puL b mx acc l = (v, 0) → v * b + d ≤ mx → puL b mx acc (l ++ [digL d]) = (v * b + d, 0)
  | [], acc, v, h, hm => by
    simp only [puL, Prod.mk.injEq, and_true] at h
    subst h
    simp only [List.nil_append, puL, dig36_digL d (by omega)]
    rw [if_neg (by omega), if_neg (by omega)]
  | c :: r, acc, v, h, hm => by
    simp only [puL] at h
    simp only [List.cons_append, puL]
    split at h
    · simp at h
    · rename_i x hx
      split at h
      · simp at h
      · rename_i h1
        split at h
        · simp at h
        · rename_i h2
          rw [if_neg h1, if_neg h2]
          exact puL_snoc b mx d hd hb r _ v h hm
theorem puL_digs (b mx : Nat) (h2 : 2 ≤ b) (hb : b ≤ 16) : ∀ (f n : Nat), n < b ^ (f + 1) → n ≤ mx → puL b mx 0 (digs b (f + 1) n) = (n, 0)
  | 0, n, h, hm => by
    have h' : n < b := by simpa using h
    simp only [digs, if_pos h', puL, dig36_digL n (by omega)]
    rw [if_neg (by omega), if_neg (by omega)]
    simp
  | f + 1, n, h, hm => by
    by_cases hn : n < b
    · simp only [digs, if_pos hn, puL, dig36_digL n (by omega)]
      rw [if_neg (by omega), if_neg (by omega)]
      simp
    · have h1 : n / b < b ^ (f + 1) := by rw [Nat.div_lt_iff_lt_mul (by omega), ← Nat.pow_succ]; exact h
      have ih := puL_digs b mx h2 hb f (n / b) h1 (Nat.le_trans (Nat.div_le_self _ _) hm)
      have e : n / b * b + n % b = n := Nat.div_add_mod' n b
      rw [show digs b (f + 1 + 1) n = digs b (f + 1) (n / b) ++ [digL (n % b)] by rw [digs, if_neg hn]]
      rw [puL_snoc b mx (n % b) (Nat.mod_lt _ (by omega)) hb _ _ _ ih (by rw [e]; exact hm), e]
theorem digs_ne (b : Nat) : ∀ (f n : Nat), digs b (f + 1) n ≠ []
  | f, n => by
    unfold digs
    split <;> simp
theorem partH_num (n : Nat) (h : n ≤ 65535) : partH (numD 16 n) = putL n 2 := by
  unfold partH pu
  rw [if_neg (show ¬ numD 16 n = [] from digs_ne 16 4 n)]
  unfold numD
  rw [puL_digs 16 65535 (by omega) (by omega) 4 n (by omega) h]
theorem partD_num (n : Nat) (h : n ≤ 255) : partD (numD 10 n) = putL n 1 := by
  unfold partD pu
  rw [if_neg (show ¬ numD 10 n = [] from digs_ne 10 4 n)]
  unfold numD
  rw [puL_digs 10 255 (by omega) (by omega) 4 n (by omega) h]
theorem digs_mem (b : Nat) (hb : 1 ≤ b) (hb2 : b ≤ 16) : ∀ (f n : Nat) (c : UInt8), c ∈ digs b f n → c ≠ 58 ∧ c ≠ 46
  | 0, n, c, h => by simp [digs] at h
  | f + 1, n, c, h => by
    have key : ∀ k, k < 16 → digL k ≠ 58 ∧ digL k ≠ 46 := by
      have : ∀ x : Fin 16, digL x.val ≠ 58 ∧ digL x.val ≠ 46 := by decide
      exact fun k hk => this ⟨k, hk⟩
    unfold digs at h
    split at h
    · simp at h; subst h; exact key n (by omega)
    · rcases List.mem_append.1 h with h | h
      · exact digs_mem b hb hb2 f _ c h
      · simp at h; subst h; exact key _ (Nat.lt_of_lt_of_le (Nat.mod_lt _ (by omega)) hb2)
theorem flatMap_same {α β : Type} {f g : α → List β} : ∀ {l : List α}, (∀ x ∈ l, f x = g x) → l.flatMap f = l.flatMap g
  | [], _ => rfl
  | a :: l, h => by rw [List.flatMap_cons, List.flatMap_cons, h a (by simp), flatMap_same (fun x hx => h x (by simp [hx]))]
theorem splH_jn (ws : List Nat) (h : ∀ n ∈ ws, n ≤ 65535) : splH 58 (jnD D16 ws) = ws.flatMap (fun n => putL n 2) := by
  unfold splH
  cases ws with
  | nil => rw [if_pos (by simp [jnD, Lib.join_nil])]; rfl
  | cons a r =>
    obtain ⟨p, c, e, _⟩ := jnD_ends D16 D16_ends (a :: r) (by simp)
    rw [if_neg (by rw [e]; simp), pcs_spL]
    unfold jnD
    rw [spL_join 58 _ (by simp) (by
      intro d hd
      obtain ⟨n, _, rfl⟩ := List.mem_map.1 hd
      exact fun hc => (digs_mem 16 (by omega) (by omega) 5 n 58 hc).1 rfl)]
    rw [List.flatMap_map]
    exact flatMap_same fun n hn => partH_num n (h n hn)
theorem splD_jn (ns : List Nat) (hne : ns ≠ []) (h : ∀ n ∈ ns, n ≤ 255) : splD 46 (Lib.join (ns.map (numD 10)) [46]) = ns.flatMap (fun n => putL n 1) := by
  unfold splD
  cases ns with
  | nil => exact absurd rfl hne
  | cons a r =>
    have hj : Lib.join ((a :: r).map (numD 10)) [46] ≠ [] := by
      rw [List.map_cons, Lib.join_cons]
      intro e
      have := List.append_eq_nil_iff.1 e
      exact digs_ne 10 4 a this.1
    rw [if_neg hj, pcs_spL, spL_join 46 _ (by simp) (by
      intro d hd
      obtain ⟨n, _, rfl⟩ := List.mem_map.1 hd
      exact fun hc => (digs_mem 10 (by omega) (by omega) 5 n 46 hc).2 rfl)]
    rw [List.flatMap_map]
    exact flatMap_same fun n hn => partD_num n (h n hn)

/-- No two colons stand together in it, and none at its end. -/
def NoDC : List UInt8 → Prop
  | [] => True
  | x :: r => (x = 58 → ∃ y t, r = y :: t ∧ y ≠ 58) ∧ NoDC r
theorem NoDC_app : ∀ (d r : List UInt8), (∀ x ∈ d, x ≠ 58) → NoDC r → NoDC (d ++ r)
  | [], r, _, hr => hr
  | x :: d, r, h, hr => ⟨fun e => absurd e (h x (by simp)), NoDC_app d r (fun y hy => h y (by simp [hy])) hr⟩
theorem D16_head (n : Nat) : ∃ y t, D16 n = y :: t ∧ y ≠ 58 := by
  have hm : ∀ x ∈ D16 n, x ≠ 58 := fun x hx => (digs_mem 16 (by omega) (by omega) 5 n x hx).1
  cases hd : D16 n with
  | nil => exact absurd hd (digs_ne 16 4 n)
  | cons y t => exact ⟨y, t, rfl, hm y (by rw [hd]; simp)⟩
theorem NoDC_jn : ∀ ws : List Nat, NoDC (jnD D16 ws)
  | [] => by simp [jnD, Lib.join_nil, NoDC]
  | [a] => by
    rw [jnD_one, ← List.append_nil (D16 a)]
    exact NoDC_app _ _ (fun x hx => (digs_mem 16 (by omega) (by omega) 5 a x hx).1) trivial
  | a :: b :: r => by
    have ih := NoDC_jn (b :: r)
    rw [jnD_cons2]
    refine NoDC_app _ _ (fun x hx => (digs_mem 16 (by omega) (by omega) 5 a x hx).1) ⟨fun _ => ?_, ih⟩
    obtain ⟨y, t, e, hy⟩ := D16_head b
    cases r with
    | nil => exact ⟨y, t, by rw [jnD_one, e], hy⟩
    | cons c r => exact ⟨y, t ++ (58 :: jnD D16 (c :: r)), by rw [jnD_cons2, e]; rfl, hy⟩
theorem pre58 (x : UInt8) (r : List UInt8) : ([58, 58] : List UInt8).isPrefixOf (x :: r) = (x == 58 && (match r with | [] => false | y :: _ => y == 58)) := by
  cases r with
  | nil => simp [List.isPrefixOf]
  | cons y t =>
    simp only [List.isPrefixOf]
    rw [Bool.eq_iff_iff]
    simp
    exact ⟨fun h => ⟨h.1.symm, h.2.symm⟩, fun h => ⟨h.1.symm, h.2.symm⟩⟩
theorem index_none : ∀ s : List UInt8, NoDC s → Lib.index s [58, 58] = -1
  | [], _ => rfl
  | x :: r, h => by
    have ih := index_none r h.2
    have hp : ([58, 58] : List UInt8).isPrefixOf (x :: r) = false := by
      rw [pre58]
      by_cases hx : x = 58
      · obtain ⟨y, t, rfl, hy⟩ := h.1 hx
        simp [hy]
      · simp [hx]
    rw [Lib.index, hp, ih]; rfl
theorem index_at : ∀ (A B : List UInt8), NoDC A → Lib.index (A ++ 58 :: 58 :: B) [58, 58] = A.length
  | [], B, _ => by
    have hp : ([58, 58] : List UInt8).isPrefixOf (58 :: 58 :: B) = true := by simp [List.isPrefixOf]
    rw [List.nil_append, Lib.index, hp]; rfl
  | x :: r, B, h => by
    have ih := index_at r B h.2
    have hp : ([58, 58] : List UInt8).isPrefixOf (x :: (r ++ 58 :: 58 :: B)) = false := by
      rw [pre58]
      by_cases hx : x = 58
      · obtain ⟨y, t, rfl, hy⟩ := h.1 hx
        simp [hy]
      · simp [hx]
    rw [List.cons_append, Lib.index, hp, ih]
    have hn : ¬ ((r.length : Int) == -1) = true := by simp
    simp [hn]
theorem cut_at (A B : List UInt8) (h : NoDC A) : Lib.cut (A ++ 58 :: 58 :: B) [58, 58] = (A, B, true) := by
  unfold Lib.cut
  rw [index_at A B h, if_pos (by omega)]
  simp
theorem cut_none (s : List UInt8) (h : NoDC s) : Lib.cut s [58, 58] = (s, [], false) := by
  unfold Lib.cut
  rw [index_none s h, if_neg (by omega)]
theorem has_colon : ∀ (A B : List UInt8), 0 ≤ Lib.indexByte (A ++ 58 :: B) 58
  | [], B => by simp [Lib.indexByte]
  | x :: A, B => by
    have ih := has_colon A B
    have hn : ¬ (Lib.indexByte (A ++ 58 :: B) 58 == -1) = true := fun e => by have := beq_iff_eq.1 e; omega
    simp only [List.cons_append, Lib.indexByte]
    split
    · omega
    · omega
theorem no_colon : ∀ s : List UInt8, (∀ x ∈ s, x ≠ 58) → Lib.indexByte s 58 = -1
  | [], _ => rfl
  | x :: r, h => by
    have ih := no_colon r (fun y hy => h y (by simp [hy]))
    have hx : ¬ (x == 58) = true := by simpa using h x (by simp)
    simp only [Lib.indexByte]
    rw [if_neg hx, ih]; rfl
end Go.Proofs.YtalnfjnfcloonaaGreatDoor

/-
  The document's own text of an address.
-/
namespace Go.Proofs.YtalnfjnfcloonaaGreatDoor
open Go.RowKit
set_option linter.unusedVariables false

theorem jn16_D (ws : List Nat) : jn16 ws = jnD D16 ws := rfl

/-- The boxed address, as the walk reads it. -/
def PB (w W : World) (l : List UInt8) : Prop := RowAt W w.heap.size 1 l ∧ w.heap.size < W.heap.size ∧ Below w.heap.size w W
theorem PB.drewN {w W : World} {l : List UInt8} (h : PB w W l) (k : Nat) : PB w (W.drewN k) l := ⟨h.1.drewN k, h.2.1, bdrewN h.2.2 k⟩

/-- Numbers of IPv4 so far. -/
def dotP (l : List UInt8) (k : Nat) : List UInt8 := jn10 ((l.take k).map (·.toNat))
theorem dotP_one (l : List UInt8) (h : 0 < l.length) : dotP l 1 = numD 10 (l[0]).toNat := by
  unfold dotP jn10
  rw [List.take_succ_eq_append_getElem h]
  simp [Lib.join_one]
theorem dotP_step (l : List UInt8) (k : Nat) (hk : k < l.length) (h0 : 0 < k) : dotP l (k + 1) = dotP l k ++ (46 :: numD 10 (l[k]).toNat) := by
  unfold dotP jn10
  rw [List.take_succ_eq_append_getElem hk, List.map_append, List.map_append]
  have hne : ((l.take k).map (·.toNat)).map (numD 10) ≠ [] := by
    intro h
    have := congrArg List.length h
    rw [List.length_map, List.length_map, List.length_take, List.length_nil] at this
    omega
  rw [List.map_singleton, List.map_singleton, join_snoc _ _ _ hne]
  simp
theorem dotP_len (l : List UInt8) (k : Nat) : (dotP l k).length ≤ 6 * k := by
  unfold dotP jn10
  have h := join_small (((l.take k).map (·.toNat)).map (numD 10)) 46 5 (fun x hx => by
    obtain ⟨b, _, rfl⟩ := List.mem_map.1 hx
    exact numD_length 10 b)
  rw [List.length_map, List.length_map, List.length_take] at h
  omega

set_option maxRecDepth 100000 in
set_option maxHeartbeats 2000000 in
theorem rprint4_any (l : List UInt8) (hl : l.length = 16) (w : World) : Calls Tryz.prog 16 #[.agg (addrC false l).toArray] w fun x w' => x = .returned (.string (Str (dotP l 4))) ∧ Below w.heap.size w w' := by
  have hB := BoxAt.made w false l hl 36
  have HQ : Hid (PB w (w.alloc (.cells (addrC false l).toArray 36)) l) := Lib.hid ⟨hB.2.1, hB.2.2.2.1, hB.2.2.2.2⟩
  have HF := Lib.hid hB.1
  clear hB
  have Hl := Lib.hid hl
  go_enter Tryz.func16, Tryz.ntmps16
  go_upto_region 2 with (fail)
  generalize w.alloc (.cells (addrC false l).toArray 36) = W at HQ HF ⊢
  have hfam := HF.out
  go_upto_region 4 with (fail)
  clear hfam
  go_loop [3, 4] (fun t i => ∃ (k : Nat) (s : List UInt8), k ≤ 4 ∧ i = .int .i64 k ∧ t = .string (Str s) ∧ Hid (s = dotP l k)) (fun _ i => 4 - (intOf i).toNat)
  case atStart => exact ⟨0, [], by omega, rfl, rfl, Lib.hid rfl⟩
  case round =>
    obtain ⟨k, s, hk, rfl, rfl, hs⟩ := hrel
    have hsl : s.length ≤ 24 := by have := dotP_len l k; rw [← hs.out] at this; omega
    by_cases hlt : k < 4
    · have hc := HQ.out.1 k (by omega)
      have HS0 : Hid (k = 0 → dotP l (k + 1) = numD 10 (l[k]'(by omega)).toNat) := Lib.hid fun h => by subst h; exact dotP_one l (by omega)
      have HS1 : Hid (0 < k → dotP l (k + 1) = dotP l k ++ (46 :: numD 10 (l[k]'(by omega)).toNat)) := Lib.hid (dotP_step l k (by omega))
      generalize (l[k]'(by omega)) = b at hc HS0 HS1
      have hb := b.toNat_lt
      have hbw : IntKind.i64.wrap (b.toNat : Int) = (b.toNat : Int) := by simp only [IntKind.wrap_i64]; omega
      have HN : Hid (∀ w, Calls Tryz.prog 31 #[.int .i64 (b.toNat : Int), .int .i64 10] w fun e w' => e = .returned (.string (Str (numD 10 b.toNat))) ∧ w = w') := Lib.hid fun w => (num10_any b.toNat (by omega) w).mono fun _ _ h => ⟨h.1, h.2.symm⟩
      have hn5 := numD_length 10 b.toNat
      generalize numD 10 b.toNat = d at HN HS0 HS1 hn5
      by_cases h0 : k = 0
      · subst h0
        have es : s = [] := hs.out
        subst es
        have HX := Lib.hid (HS0.out rfl)
        have hc1 := run_cat (P := Tryz.prog) [] d (by simp; omega)
        rw [List.nil_append] at hc1
        clear HS0 HS1
        go_wp2_with (go_at_call 31; (with_reducible refine (HN.out _).mono ?_); rintro x w1 ⟨rfl, rfl⟩)
        go_round
        case rel => exact ⟨1, _, by omega, by go_num, rfl, Lib.hid (by rw [HX.out])⟩
        case measure => simp [intOf]
      · have h0' : 0 < k := by omega
        have HX := Lib.hid (HS1.out h0')
        have hcc : ∀ w, (Op.stringOp .add (Str s) ⟨#[46]⟩).run Tryz.prog w = .ok (.string (Str (s ++ [46]))) w := fun w => run_cat (P := Tryz.prog) s [46] (by simp; omega) w
        have hc1 := run_cat (P := Tryz.prog) (s ++ [46]) d (by simp; omega)
        simp only [List.append_assoc, List.cons_append, List.nil_append] at hc1
        clear HS0 HS1
        go_wp2_with (go_at_call 31; (with_reducible refine (HN.out _).mono ?_); rintro x w1 ⟨rfl, rfl⟩)
        go_round
        case rel => exact ⟨k + 1, _, by omega, by go_num, rfl, Lib.hid (by rw [HX.out, ← hs.out])⟩
        case measure => simp [intOf]; omega
    · obtain rfl : k = 4 := by omega
      have HE := hs
      go_wp2_with fail
      go_ret
      exact ⟨by rw [← HE.out]; rfl, HQ.out.2.2⟩
end Go.Proofs.YtalnfjnfcloonaaGreatDoor

