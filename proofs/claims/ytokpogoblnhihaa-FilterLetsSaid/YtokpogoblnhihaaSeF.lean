/-
  The contract of slices.Compact over a row of addresses of one's own.
-/
import Derived.Test.YtokpogoblnhihaaMg24
namespace Go.Proofs.Ytokpogoblnhihaa
open Go.RowKit
set_option linter.unusedVariables false
set_option linter.unusedSimpArgs false
attribute [local go_sem ↓] ld_addr st_addr
attribute [local go_sem] ldr_addr str_addrO row?_drewN_eq row?_drew_eq

/-- Where the compaction stands: the row holds what is kept and, behind that, what stood there. -/
def CP (w wr : World) (base g n cap : Nat) (l : List AD) (m kk : Nat) : Prop :=
  OwnL wr base (.slice (some ⟨g, 0, none⟩) n cap) (ded (l.take m) ++ l.drop kk) ∧ Below g w wr ∧ kk = (ded (l.take m)).length ∧ kk < m
theorem CP.drewN {w wr : World} {base g n cap m kk : Nat} {l : List AD} (h : CP w wr base g n cap l m kk) (d : Nat) : CP w (wr.drewN d) base g n cap l m kk := ⟨h.1, bdrewN h.2.1 d, h.2.2⟩
theorem CP.row {w wr : World} {base g n cap m kk : Nat} {l : List AD} (hok : ∀ a ∈ l, adOk a) (hn : n = l.length) (h : CP w wr base g n cap l m kk) (hm : m ≤ l.length) (i : Nat) (hi : i < l.length) (hk : kk ≤ i) : row? wr g (i * 17) 17 = some (adC l[i]) := by
  have hkm := h.2.2.2
  have hok2 : ∀ a ∈ ded (l.take m) ++ l.drop kk, adOk a := fun a ha => by
    rcases List.mem_append.1 ha with h | h
    · exact hok a (List.mem_of_mem_take ((mem_ded _ _).1 h))
    · exact hok a (List.mem_of_mem_drop h)
  have hlen : n = (ded (l.take m) ++ l.drop kk).length := by
    rw [List.length_append, ← h.2.2.1, List.length_drop, hn]; omega
  have := own_row hok2 hlen h.1 i (by rw [← hlen, hn]; exact hi)
  rw [this]
  congr 2
  rw [List.getElem_append_right (by rw [← h.2.2.1]; exact hk), List.getElem_drop]
  congr 1
  rw [← h.2.2.1]; omega
theorem CP.start {w : World} {base g n cap k : Nat} {l : List AD} (h : OwnL w base (.slice (some ⟨g, 0, none⟩) n cap) l) (hk : k + 1 < l.length) (hne : ∀ i (h : i + 1 < l.length), i + 1 < k + 1 → l[i + 1] ≠ l[i]) (he : l[k + 1] = l[k]) (d : Nat) : CP w (w.drewN d) base g n cap l (k + 2) (k + 1) := by
  have e : ded (l.take (k + 2)) = l.take (k + 1) := by
    rw [ded_take_succ hk, if_pos he]
    exact ded_id (by omega) (fun i hi h2 => hne i hi h2)
  refine ⟨?_, bdrewN (Below.refl _ _) d, by rw [e, List.length_take]; omega, by omega⟩
  rw [e, List.take_append_drop]
  exact h
theorem CP.skip {w wr : World} {base g n cap j kk : Nat} {l : List AD} (h : CP w wr base g n cap l (j + 1) kk) (hj : j + 1 < l.length) (he : l[j + 1] = l[j]) : CP w wr base g n cap l (j + 2) kk := by
  have e : ded (l.take (j + 2)) = ded (l.take (j + 1)) := by rw [ded_take_succ hj, if_pos he]
  unfold CP
  rw [e]; exact ⟨h.1, h.2.1, h.2.2.1, by have := h.2.2.2; omega⟩
theorem CP.put {w wr : World} {base g n cap j kk : Nat} {l : List AD} (hok : ∀ a ∈ l, adOk a) (h : CP w wr base g n cap l (j + 1) kk) (hj : j + 1 < l.length) (hne : l[j + 1] ≠ l[j]) : CP w (aggO wr g (kk * 17) (adC l[j + 1])) base g n cap l (j + 2) (kk + 1) := by
  have hkm := h.2.2.2
  have e : ded (l.take (j + 2)) = ded (l.take (j + 1)) ++ [l[j + 1]] := by rw [ded_take_succ hj, if_neg hne]
  have hok2 : ∀ a ∈ ded (l.take (j + 1)) ++ l.drop kk, adOk a := fun a ha => by
    rcases List.mem_append.1 ha with h | h
    · exact hok a (List.mem_of_mem_take ((mem_ded _ _).1 h))
    · exact hok a (List.mem_of_mem_drop h)
  have hs := own_set hok2 h.1 kk (by rw [List.length_append, ← h.2.2.1, List.length_drop]; omega) l[j + 1] (hok _ (List.getElem_mem hj))
  refine ⟨?_, aggO_below h.2.1 (Nat.le_refl _) _ _, by rw [e, List.length_append, ← h.2.2.1]; rfl, by omega⟩
  have e2 : (ded (l.take (j + 1)) ++ l.drop kk).set kk l[j + 1] = ded (l.take (j + 2)) ++ l.drop (kk + 1) := by
    rw [e, List.set_append_right _ _ (by rw [← h.2.2.1]; exact Nat.le_refl _), ← h.2.2.1, Nat.sub_self, List.drop_eq_getElem_cons (show kk < l.length by omega), List.set_cons_zero, List.append_assoc]
    rfl
  rw [← e2]; exact hs
theorem CP.done {w wr : World} {base g n cap kk : Nat} {l : List AD} (hok : ∀ a ∈ l, adOk a) (h : CP w wr base g n cap l l.length kk) (cs : List Value) : OwnL (aggO wr g (kk * 17) cs) base (.slice (some ⟨g, 0, none⟩) kk cap) (ded l) ∧ Below g w (aggO wr g (kk * 17) cs) := by
  obtain ⟨h1, h2, h3, -⟩ := h
  rw [List.take_length] at h1 h3
  refine ⟨?_, aggO_below h2 (Nat.le_refl _) _ _⟩
  have hok2 : ∀ a ∈ ded l ++ l.drop kk, adOk a := fun a ha => by
    rcases List.mem_append.1 ha with h | h
    · exact hok a ((mem_ded _ _).1 h)
    · exact hok a (List.mem_of_mem_drop h)
  have := own_cut hok2 h1 cs
  rw [← h3] at this
  exact this

set_option maxRecDepth 100000 in
set_option maxHeartbeats 4000000 in
theorem compact_any (base : Nat) (v : Value) (l : List AD) (w : World) (hok : ∀ a ∈ l, adOk a) (hown : OwnL w base v l) (hll : l.length ≤ 1000000) : Calls Try.prog 59 #[v] w fun x w' => ∃ v', x = .returned v' ∧ OwnL w' base v' (ded l) ∧ Below base w w' := by
  by_cases h2 : l.length < 2
  · have hd : ded l = l := by
      match l, h2 with
      | [], _ => rfl
      | [a], _ => rfl
    rw [hd]
    have HOW := Lib.hid hown
    obtain ⟨p, cap, rfl, _, _⟩ := (Ads.own hok hown).len
    have hlt : decide ((l.length : Int) < 2) = true := decide_eq_true (by omega)
    clear hown hok hd
    go_enter Try.func59, Try.ntmps59
    go_wp2
    go_ret
    exact ⟨_, rfl, HOW.out, Below.refl _ _⟩
  · have hcap := (Ads.own hok hown).len
    obtain ⟨g, cap, rfl, hgb, hc, hc2⟩ : ∃ g cap, v = .slice (some ⟨g, 0, none⟩) l.length cap ∧ base ≤ g ∧ l.length ≤ cap ∧ cap ≤ maxLen := by
      obtain ⟨h1, ⟨h3, h4⟩ | ⟨g, cap, cur, e1, e2, e3, e4, e5, e6, e7⟩⟩ := hown
      · omega
      · exact ⟨g, cap, e1, e2, e4, e5⟩
    clear hcap
    have HOW := Lib.hid hown
    have HOK := Lib.hid hok
    have HGB := Lib.hid hgb
    obtain ⟨n, hn⟩ : ∃ n, n = l.length := ⟨_, rfl⟩
    rw [← hn] at h2 hc hll HOW ⊢
    have HN := Lib.hid hn
    have HR : Hid (∀ i (h : i < l.length), row? w g (i * 17) 17 = some (adC l[i])) := Lib.hid (own_row hok hn HOW.out)
    clear hown hok hn hgb
    unfold maxLen at hc2
    have hlt : decide ((n : Int) < 2) = false := decide_eq_false (by omega)
    go_enter Try.func59, Try.ntmps59
    go_wp2_with fail
    go_loopw [3] (fun i wr => ∃ k : Nat, k + 1 ≤ n ∧ i = .int .i64 ((k : Int) + 1) ∧ Hid (∀ i (h : i + 1 < l.length), i + 1 < k + 1 → l[i + 1] ≠ l[i]) ∧ ∃ d, wr = w.drewN d) (fun i _ => n - (intOf i).toNat)
    case atStart => exact ⟨0, by omega, rfl, Lib.hid (fun i h h2 => by omega), 0, rfl⟩
    case round =>
      obtain ⟨k, hk, rfl, HNE, d, rfl⟩ := hrel
      by_cases hlk : k + 1 < n
      · have g1 : k + 1 < l.length := by rw [← HN.out]; exact hlk
        have r1 := HR.out (k + 1) g1
        have r2 := HR.out k (by omega)
        have q := fun w0 => eq_ad l[k + 1] l[k] (HOK.out _ (List.getElem_mem g1)) (HOK.out _ (List.getElem_mem _)) w0
        have hd : decide ((k : Int) + 1 < (n : Int)) = true := decide_eq_true (by omega)
        have hk1 : (k : Int) + 1 < (n : Int) := by omega
        have hk2 : (0 : Int) ≤ (k : Int) ∧ (k : Int) < (n : Int) := by omega
        have hk3 : (0 : Int) ≤ (k : Int) + 1 := by omega
        have hw1 : IntKind.i64.wrap ((k : Int) + 1 - 1) = (k : Int) := by simp only [IntKind.wrap_i64]; omega
        have hw2 : IntKind.i64.wrap ((k : Int) + 1 + 1) = (k : Int) + 1 + 1 := by simp only [IntKind.wrap_i64]; omega
        have htn : ((k : Int) + 1).toNat = k + 1 := by omega
        by_cases he : l[k + 1] = l[k]
        · have HST := Lib.hid (fun d => CP.start HOW.out g1 HNE.out he d)
          rw [decide_eq_true he] at q
          generalize adC l[k + 1] = A at r1 q
          generalize adC l[k] = B at r2 q
          clear he
          obtain ⟨m0, rfl⟩ : ∃ m0, n = k + 1 + m0 := ⟨n - (k + 1), by omega⟩
          obtain ⟨c0, rfl⟩ : ∃ c0, cap = k + 1 + c0 := ⟨cap - (k + 1), by omega⟩
          have hck : ¬ (c0 = 0) := by omega
          go_upto_region 6 with (fail)
          go_quiet (fail)
          go_upto_region 8 with (fail)
          clear r1 r2 q
          go_wp2_with fail
          go_loopw [3, 5] (fun s3 s5 wr => ∃ kk e : Nat, s3 = .int .i64 kk ∧ s5 = .int .i64 ((e : Int) + 1) ∧ e + 1 ≤ m0 ∧ kk < k + e + 2 ∧ Hid (CP w wr base g (k + 1 + m0) (k + 1 + c0) l (k + e + 2) kk)) (fun _ s5 _ => m0 - (intOf s5).toNat)
          case atStart => exact ⟨k + 1, 0, by go_num, rfl, by omega, by omega, Lib.hid (HST.out _)⟩
          case round =>
            obtain ⟨kk, e, rfl, rfl, j1, j3, HC⟩ := hrel
            by_cases hle : e + 1 < m0
            · have g2 : k + e + 1 + 1 < l.length := by rw [← HN.out]; omega
              have r3 : row? wr g ((k + 1) * 17 + (e + 1) * 17) 17 = some (adC l[k + e + 1 + 1]) := by
                have := CP.row HOK.out HN.out HC.out (by omega) (k + e + 1 + 1) g2 (by omega)
                rwa [show (k + e + 1 + 1) * 17 = (k + 1) * 17 + (e + 1) * 17 by omega] at this
              have r4 : row? wr g ((k + 1) * 17 + e * 17) 17 = some (adC l[k + e + 1]) := by
                have := CP.row HOK.out HN.out HC.out (by omega) (k + e + 1) (by omega) (by omega)
                rwa [show (k + e + 1) * 17 = (k + 1) * 17 + e * 17 by omega] at this
              have q := fun w0 => eq_ad l[k + e + 1 + 1] l[k + e + 1] (HOK.out _ (List.getElem_mem g2)) (HOK.out _ (List.getElem_mem _)) w0
              have hok1 := HOK.out _ (List.getElem_mem g2)
              have t1 : decide ((e : Int) + 1 < (m0 : Int)) = true := decide_eq_true (by omega)
              have t2 : (e : Int) + 1 < (m0 : Int) := by omega
              have t3 : (0 : Int) ≤ (e : Int) + 1 := by omega
              have t4 : (0 : Int) ≤ (e : Int) ∧ (e : Int) < (m0 : Int) := by omega
              have t5 : IntKind.i64.wrap ((e : Int) + 1 - 1) = (e : Int) := by simp only [IntKind.wrap_i64]; omega
              have t6 : IntKind.i64.wrap ((e : Int) + 1 + 1) = (e : Int) + 1 + 1 := by simp only [IntKind.wrap_i64]; omega
              have t7 : ((e : Int) + 1).toNat = e + 1 := by omega
              have t8 : (0 : Int) ≤ (kk : Int) ∧ (kk : Int) < (k : Int) + 1 + (m0 : Int) := by omega
              have t9 : IntKind.i64.wrap ((kk : Int) + 1) = (kk : Int) + 1 := by simp only [IntKind.wrap_i64]; omega
              by_cases he2 : l[k + e + 1 + 1] = l[k + e + 1]
              · have HS := Lib.hid (CP.skip HC.out g2 he2)
                rw [decide_eq_true he2] at q
                generalize adC l[k + e + 1 + 1] = A2 at r3 q
                generalize adC l[k + e + 1] = B2 at r4 q
                clear he2 hok1
                go_upto_region 11 with (fail)
                go_quiet (fail)
                go_wp2
                go_roundw
                case rel => exact ⟨kk, e + 1, rfl, by go_num, by omega, by omega, Lib.hid ((HS.out).drewN _)⟩
                case measure => simp [intOf]; omega
              · have HS := Lib.hid (fun d => CP.put HOK.out (HC.out.drewN d) g2 he2)
                have hfr : ∀ d, free? (wr.drewN d) g (kk * 17) 17 = true := fun d => own_free HC.out.1 _ _ (by omega)
                have hfok : fok (adC l[k + e + 1 + 1]).toArray 17 = true := fok_addr _ _ hok1
                rw [decide_eq_false he2] at q
                generalize adC l[k + e + 1 + 1] = A2 at r3 q HS hfok
                generalize adC l[k + e + 1] = B2 at r4 q
                clear he2 hok1
                go_upto_region 11 with (fail)
                go_quiet (fail)
                go_wp2
                go_roundw
                case rel => exact ⟨kk + 1, e + 1, by go_num, by go_num, by omega, by omega, Lib.hid (HS.out _)⟩
                case measure => simp [intOf]; omega
            · have hem : m0 = e + 1 := by omega
              subst hem
              have HDN := Lib.hid (CP.done HOK.out (by have := HC.out; rwa [show k + e + 2 = l.length by rw [← HN.out]; omega] at this))
              have t1 : decide ((e : Int) + 1 < (e : Int) + 1) = false := by simp
              have t8 : (0 : Int) ≤ (kk : Int) ∧ (kk : Int) ≤ (k : Int) + 1 + ((e : Int) + 1) := by omega
              obtain ⟨y, hy⟩ : ∃ y, k + 1 + (e + 1) = kk + y := ⟨k + 1 + (e + 1) - kk, by omega⟩
              obtain ⟨z, hz⟩ : ∃ z, k + 1 + c0 = kk + z := ⟨k + 1 + c0 - kk, by omega⟩
              have hcl := fun ty => run_clear_ad wr ty g (kk * 17) y z (by omega) (own_free HC.out.1 _ _ (by omega))
              go_wp2
              go_ret
              exact ⟨_, rfl, by have := (HDN.out (clrC y)).1; rw [hz] at this; exact this, (HDN.out _).2.mono HGB.out⟩
        · have HS : Hid (∀ i (h : i + 1 < l.length), i + 1 < k + 1 + 1 → l[i + 1] ≠ l[i]) := Lib.hid fun i h h2 => by
            by_cases e : i = k
            · subst e; exact he
            · exact HNE.out i h (by omega)
          rw [decide_eq_false he] at q
          generalize adC l[k + 1] = A at r1 q
          generalize adC l[k] = B at r2 q
          clear he
          go_upto_region 6 with (fail)
          go_quiet (fail)
          go_wp2
          go_roundw
          case rel => exact ⟨k + 1, by omega, by go_num, HS, _, rfl⟩
          case measure => simp [intOf]; omega
      · have hk0 : n = k + 1 := by omega
        subst hk0
        have hd : decide ((k : Int) + 1 < (k : Int) + 1) = false := by simp
        have HD : Hid (ded l = l) := Lib.hid (by
          have := ded_id (l := l) (k := k + 1) (by rw [HN.out]; exact Nat.le_refl _) (fun i hi h2 => HNE.out i hi h2)
          rwa [HN.out, List.take_length] at this)
        clear HNE
        go_wp2
        go_ret
        exact ⟨_, rfl, by rw [HD.out]; exact HOW.out, bdrewN (Below.refl _ _) _⟩
end Go.Proofs.Ytokpogoblnhihaa
