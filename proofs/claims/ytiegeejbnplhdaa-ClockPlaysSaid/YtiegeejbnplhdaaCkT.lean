/-
  The clock's Due and Pop.
-/
import Derived.Test.YtiegeejbnplhdaaSoT
namespace Go.Proofs.Ytiegeejbnplhdaa
open Go.RowKit
set_option linter.unusedVariables false
set_option linter.unusedSimpArgs false

theorem ltE_key (l : List EN) : Ord9 (fun x y => decide (cfE l x y < 0)) (fun _ => true) := by
  have h := swoE ⟨default, 0, 0, 0, 0, 0, l⟩
  refine ⟨h.irrefl, h.trans, fun a b _ _ hne => ?_⟩
  simp only [decide_eq_true_eq]
  unfold cfE
  generalize tOf l a = s
  generalize tOf l b = t
  unfold orI cmpI cmpK
  rcases ltK_tot a b hne with k | k
  · by_cases h1 : s < t
    · left; simp [h1]
    · by_cases h2 : t < s
      · right; simp [h2]
      · have h3 : ¬ t < s := h2
        left; simp [h1, h2, k]
  · have k2 := ltK_ord.anti k
    by_cases h1 : s < t
    · left; simp [h1]
    · by_cases h2 : t < s
      · right; simp [h2]
      · right; simp [h1, h2, k]
/-- What is a permutation of the keys that are due, in the clock's order, is the document's list. -/
theorem due_list {l : List EN} (h : CkOk l) (now : Int) {ks s : List (List UInt8)} (hp : ks.Perm (tillE now l)) (hs : s.Perm ks) (hso : s.Pairwise (fun x y => decide (cfE l y x < 0) = false)) : s = keysE (l.take (dueE l now)) := by
  have hn : ∀ m : List EN, CkOk m → (keysE m).Nodup := fun m hm => hm.nodup
  have e1 : tillE now l = keysE (l.take (dueE l now)) := by unfold tillE; rw [(due_take h.s now).1]
  have hps : s.Perm (keysE (l.take (dueE l now))) := by rw [← e1]; exact hs.trans hp
  have hnd : s.Nodup := hps.nodup_iff.2 (h.take _).nodup
  have o := ltE_key l
  refine Sorted.ext o ?_ ?_ (fun x => hps.mem_iff)
  · refine (hnd.and hso).imp fun {a b} ⟨h1, h2⟩ => ?_
    rcases o.tot a b rfl rfl h1 with k | k
    · exact k
    · rw [h2] at k; cases k
  · unfold keysE Sorted
    rw [List.pairwise_map]
    refine ((h.take (dueE l now)).s).imp_of_mem fun {a b} ha hb hab => ?_
    show decide (cfE l a.1 b.1 < 0) = true
    rw [cfE_lt h (List.mem_of_mem_take ha) (List.mem_of_mem_take hb)]
    exact hab
theorem getD_arr (ks : List (List UInt8)) (i : Nat) (hi : i < ks.length) : ks.toArray[i]! = ks[i] := by
  rw [getElem!_pos ks.toArray i (by simpa using hi)]; simp
/-- The row of texts of one's own as the sort finds it. -/
theorem st_of_own {w : World} {base g cap : Nat} {ks : List (List UInt8)} (b bm : Nat) (l : List EN) (hown : OwnV KS 9 w base (.slice (some ⟨g, 0, none⟩) ks.length cap) ks) (hkl : ∀ x ∈ ks, x.length ≤ maxLen) (hn : ks.length < 4611686018427387904)
    (ho : ObjAt w b #[.map (some bm)] 51) (hM : OwnM w bm l) (hc : CkOk l) : SE.Ok ⟨w, g, cap, ks.length, b, bm, l⟩ ∧ St ⟨w, g, cap, ks.length, b, bm, l⟩ w ks.toArray := by
  obtain ⟨h1, ⟨h2, _⟩ | ⟨g', cap', cur, e1, e2, e3, e4, e5, e6, e7⟩⟩ := hown
  · cases h2
  · cases e1
    rw [KS_Cs] at e7
    change List.take (ks.length * 1) _ = _ at e7
    rw [Nat.mul_one] at e7
    change cur.size = cap * 1 at e6
    rw [Nat.mul_one] at e6
    refine ⟨⟨ho, hM, hc, ⟨cur, e3, e6⟩, e4, hn⟩, ⟨⟨rfl, rfl, rfl, Nat.le_refl _, fun _ _ _ => rfl⟩, ⟨cur, e3, e6, fun i hi => ?_⟩, by simp, fun i hi => ?_⟩⟩
    · have h3 : (cur.toList.take ks.length)[i]? = (ks.map encStr)[i]? := by rw [e7]
      rw [List.getElem?_take_of_lt hi, Array.getElem?_toList, List.getElem?_map, List.getElem?_eq_getElem hi] at h3
      rw [h3, getD_arr ks i hi]
      rfl
    · rw [getD_arr ks i hi]; exact hkl _ (List.getElem_mem hi)
/-- .. and as it leaves it. -/
theorem own_of_st {w w' : World} {base g cap n : Nat} {b bm : Nat} {l : List EN} {d : Array (List UInt8)} (hb : base ≤ g) (hc : n ≤ cap) (hm : cap ≤ maxLen) (h : St ⟨w, g, cap, n, b, bm, l⟩ w' d) : OwnV KS 9 w' base (.slice (some ⟨g, 0, none⟩) n cap) d.toList := by
  obtain ⟨cur, h1, h2, h3⟩ := h.row
  have hl : d.toList.length = n := by rw [Array.length_toList]; exact h.sz
  refine ⟨by rw [KS_Cs, List.length_map]; show d.toList.length = d.toList.length * 1; omega, .inr ⟨g, cap, cur, by rw [hl], hb, h1, by rw [hl]; exact hc, hm, by show cur.size = cap * 1; rw [Nat.mul_one]; exact h2, ?_⟩⟩
  rw [hl, KS_Cs]
  show List.take (n * 1) _ = _
  rw [Nat.mul_one]
  have hcs : n ≤ cur.size := by rw [h2]; exact hc
  apply List.ext_getElem?
  intro i
  by_cases hi : i < n
  · rw [List.getElem?_take_of_lt hi, Array.getElem?_toList, h3 i hi, List.getElem?_map, List.getElem?_eq_getElem (by omega)]
    have hi2 : i < d.size := by have := h.sz; simp only at this; omega
    rw [getElem!_pos d i hi2]
    simp only [Option.map_some, Array.getElem_toList]
    rfl
  · rw [List.getElem?_take_eq_none (by omega), List.getElem?_eq_none (by simp; have := h.sz; simp only at this; omega)]
theorem csort_any (base : Nat) (v : Value) (p : Value) (l : List EN) (ks : List (List UInt8)) (now : Int) (w : World) (hV : ClkV w p l) (hok : EnOk l) (hown : OwnV KS 9 w base v ks) (hp : ks.Perm (tillE now l)) (hz : ks = [] → v = .slice none 0 0) (hll : l.length ≤ SB) (hl6 : l.length ≤ 1000000) :
    Calls Try.prog 28 #[v, .func (.func 29) #[p] #[]] w fun x w' => x = .returned (.tuple #[]) ∧ OwnV KS 9 w' base v (keysE (l.take (dueE l now))) ∧ w.grownBy w' v.ownBlock := by
  have hown' := hown
  have hlen : ks.length ≤ l.length := by rw [hp.length_eq]; exact tillE_len now l
  by_cases he : ks = []
  · have hv := hz he
    subst he hv
    have e : keysE (l.take (dueE l now)) = [] := by rw [← due_list hok.ck now hp (List.Perm.refl _) List.Pairwise.nil]
    rw [e]
    exact (sfn_any _ w).mono fun _ _ ⟨hx, hb⟩ => ⟨hx, hb ▸ hown', hb ▸ ⟨rfl, rfl, rfl, Nat.le_refl _, fun _ _ _ => rfl⟩⟩
  · obtain ⟨h1, ⟨h2, h3⟩ | ⟨g, cap, cur, e1, e2, e3, e4, e5, e6, e7⟩⟩ := hown
    · exact absurd (List.eq_nil_of_length_eq_zero h3) he
    · subst e1
      have hne : l ≠ [] := fun e => by subst e; exact he (List.eq_nil_of_length_eq_zero (by simpa using hlen))
      rcases hV with ⟨_, e⟩ | ⟨b, m, rfl, ho, hm⟩
      · exact absurd e hne
      rcases hm with ⟨_, e⟩ | ⟨bm, rfl, hM⟩
      · exact absurd e hne
      have hkl : ∀ x ∈ ks, x.length ≤ maxLen := fun x hx => by
        have := hp.mem_iff.1 hx
        unfold tillE keysE at this
        obtain ⟨y, hy, rfl⟩ := List.mem_map.1 this
        exact hok.kl y (List.mem_filter.1 hy).1
      obtain ⟨k1, k2⟩ := st_of_own b bm l hown' hkl (by omega) ho hM hok.ck
      refine (sf_any _ k1 _ w k2 (Nat.le_trans hlen hll)).mono fun x w' ⟨hx, d', hs, hpm, hsd⟩ => ⟨hx, ?_, hs.gr⟩
      have hd : d'.size = ks.length := hs.sz
      have hown2 := own_of_st e2 e4 e5 hs
      have hp2 : d'.toList.Perm ks := by
        have h := hpm.2.2
        rw [Array.extract_eq_self_of_le (by show d'.size ≤ ks.length; omega), Array.extract_eq_self_of_le (by show ks.toArray.size ≤ ks.length; simp)] at h
        simpa using h
      rw [← due_list hok.ck now hp hp2 ?_]
      · exact hown2
      · rw [List.pairwise_iff_getElem]
        intro i j hi hj hij
        simp only [Array.length_toList] at hi hj
        have h := hsd i j (Nat.zero_le _) hij (by show j < ks.length; omega)
        rw [getElem!_pos d' i hi, getElem!_pos d' j hj] at h
        simp only [Array.getElem_toList]
        exact h
set_option maxRecDepth 100000 in
theorem ckdue_any (p : Value) (l : List EN) (now : Int) (w : World) (h : ClkV w p l) (hok : EnOk l) (hll : l.length ≤ SB) (hl6 : l.length ≤ 100000) :
    Calls Try.prog 17 #[p, .int .i64 now] w fun x w' => ∃ v', x = .returned v' ∧ Below w.heap.size w w' ∧ OwnV KS 9 w' w.heap.size v' (keysE (l.take (dueE l now))) := by
  have HU := Lib.hid (until_any p l now w h hok.ck hl6)
  have HS := Lib.hid (fun v ks W hV ho hp hz => csort_any w.heap.size v p l ks now W hV hok ho hp hz hll (by omega))
  have HV := Lib.hid h
  have hmf : ∀ (fn : Fn) (first cap : Array Value) (w : World), (Instr.makeFunc fn first cap).run Try.prog w = .ok (.func fn first cap) w := fun _ _ _ _ => rfl
  clear h hok
  go_enter Try.func17, Try.ntmps17
  go_wp2_with (first
    | (go_at_call 27; refine HU.out.mono ?_; rintro x w1 ⟨v, rfl, hb, ks, hw, hp, hz⟩; have HB := Lib.hid hb; have HW := Lib.hid hw; have HP := Lib.hid hp; have HZ := Lib.hid hz; clear hb hw hp hz)
    | (go_at_call 28; refine (HS.out _ _ _ (HV.out.below HB.out) HW.out HP.out HZ.out).mono ?_; rintro x w2 ⟨rfl, hw, hg⟩; have HW2 := Lib.hid hw; have HG := Lib.hid hg; clear hw hg))
  go_ret
  exact ⟨_, rfl, HB.out.grown HG.out HB.out.size (fun k e => (OwnV.ge HW.out k e).1), HW2.out⟩
theorem cut_head {l : List EN} (h : CkOk l) {i : Nat} (hi : i < l.length) : cutE (l.drop i) l[i].1 = l.drop (i + 1) := by
  rw [List.drop_eq_getElem_cons hi]
  unfold cutE
  rw [List.filter_cons, if_neg (by simp)]
  refine List.filter_eq_self.2 fun x hx => ?_
  simp only [Bool.not_eq_true', decide_eq_false_iff_not]
  intro e
  have h1 : x ∈ l := List.mem_of_mem_drop hx
  have h2 := h.u x h1 l[i] (List.getElem_mem hi) e
  have h3 : (l.drop i).Nodup := (Sorted.nodup ltE_ord h.s).sublist (List.drop_sublist i l)
  rw [List.drop_eq_getElem_cons hi] at h3
  rw [h2] at hx
  exact (List.nodup_cons.1 h3).1 hx
theorem OwnV.keepC {α : Type} {K : Kind α} {T : TypeId} {w w' : World} {base : Nat} {v : Value} {l : List α} {p : Value} {m : List EN} (h : OwnV K T w base v l) (hc : ClkV w p m) (hk : Keep (ClkB w p) w w') (hT : T ≠ 51) : OwnV K T w' base v l := by
  obtain ⟨h1, h2 | ⟨g, cap, cur, e1, e2, e3, e4⟩⟩ := h
  · exact ⟨h1, .inl h2⟩
  · refine ⟨h1, .inr ⟨g, cap, cur, e1, e2, (hk.block g (Array.getElem?_eq_some_iff.1 e3).1 (fun hb => hT (hc.kind hb e3))).trans e3, e4⟩⟩
theorem dueE_le (l : List EN) (now : Int) : dueE l now ≤ l.length := by
  unfold dueE
  exact (List.takeWhile_sublist _).length_le
set_option maxRecDepth 100000 in
theorem ckpop_any (p : Value) (l : List EN) (now : Int) (w : World) (h : ClkV w p l) (hok : EnOk l) (hll : l.length ≤ SB) (hl6 : l.length ≤ 100000) :
    Calls Try.prog 15 #[p, .int .i64 now] w fun x w' => ∃ v', x = .returned v' ∧ ClkV w' p (l.drop (dueE l now)) ∧ ClkS w p w' ∧ OwnV KS 9 w' w.heap.size v' (keysE (l.take (dueE l now))) := by
  have HD := Lib.hid (ckdue_any p l now w h hok hll hl6)
  have HV := Lib.hid h
  have HO := Lib.hid hok
  have HA := Lib.hid (fun l W h => all_any p l W h)
  clear h hok
  obtain ⟨n, hn⟩ : ∃ n, n = dueE l now := ⟨_, rfl⟩
  have hnl : n ≤ l.length := by rw [hn]; exact dueE_le l now
  rw [← hn] at HD ⊢
  clear hn
  have HNL := Lib.hid hnl
  go_enter Try.func15, Try.ntmps15
  go_wp2_with (go_at_call 17; refine HD.out.mono ?_; rintro x w1 ⟨v, rfl, hb, hw⟩; have HB := Lib.hid hb; have HW := Lib.hid hw; clear hb hw; obtain ⟨q, cap, hv, hq⟩ : ∃ q cap, v = .slice q n cap ∧ True := (by obtain ⟨q, cap, e, _⟩ := HW.out.vec.len; exact ⟨q, cap, by rw [e]; unfold keysE; rw [List.length_map, List.length_take, Nat.min_eq_left HNL.out], trivial⟩); subst hv; clear hq)
  have HV1 := Lib.hid (HV.out.below HB.out)
  have HS1 := Lib.hid (ClkS.below HV.out HB.out)
  have hn6 : n ≤ 100000 := by omega
  go_loopw [13] (fun i wr => ∃ k : Nat, k ≤ n ∧ i = .int .i64 k ∧ Hid (ClkV wr p (l.drop k)) ∧ Hid (ClkS w p wr) ∧ Hid (OwnV KS 9 wr w.heap.size (.slice q n cap) (keysE (l.take n)))) (fun i _ => n - (intOf i).toNat)
  case atStart => exact ⟨0, by omega, rfl, HV1, HS1, HW⟩
  case round =>
    clear HV1 HS1 HW
    obtain ⟨k, hk, rfl, HVk, HSk, HWk⟩ := hrel
    by_cases hlt : k < n
    · have hkl : k < l.length := by omega
      have hk1 : (k : Int) < (n : Int) := by omega
      have hw1 : IntKind.i64.wrap ((k : Int) + 1) = (k : Int) + 1 := by simp only [IntKind.wrap_i64]; omega
      have hlen : (keysE (l.take n)).length = n := by unfold keysE; rw [List.length_map, List.length_take, Nat.min_eq_left HNL.out]
      obtain ⟨b, o, cap', e, -, -, -, hA⟩ := HWk.out.vec.parts (fun e => by rw [e] at hlen; simp at hlen; omega)
      simp only [Value.slice.injEq] at e
      obtain ⟨e1, -, -⟩ := e
      subst e1
      have r1 := KS_str hA (i := k) (by rw [hlen]; exact hlt)
      have HKEY : Hid ((keysE (l.take n))[k]'(by rw [hlen]; exact hlt) = l[k].1) := Lib.hid (by unfold keysE; rw [List.getElem_map, List.getElem_take])
      rw [HKEY.out] at r1
      have HKL : Hid (l[k].1.length ≤ maxLen) := Lib.hid (HO.out.kl _ (List.getElem_mem hkl))
      have HC := Lib.hid (cut_head HO.out.ck hkl)
      generalize l[k].1 = key at *
      clear hA hlen HKEY hkl hn6 hll hl6 hnl
      go_wp2_with (first
        | (go_at_call 26; refine (HA.out _ _ HVk.out).mono ?_; rintro x w2 ⟨⟨m, rfl, hM, hB⟩, rfl⟩; have HM := Lib.hid hM; have HMB := Lib.hid hB; clear hM hB)
        | (at_delete; refine wpList_delM rfl _ _ rfl m (l.drop k) key rfl HM.out rfl HKL.out ?_; intro w3 h1 h2; have H3 := Lib.hid (del_clk HVk.out HM.out HMB.out h1 h2); clear h1 h2))
      go_roundw
      case rel =>
        have h5 := H3.out.1
        rw [HC.out] at h5
        exact ⟨k + 1, by omega, by go_num, Lib.hid h5, Lib.hid (HSk.out.trans H3.out.2), Lib.hid (OwnV.keepC HWk.out HVk.out H3.out.2.1 (by decide))⟩
      case measure => simp [intOf]; omega
    · have hk1 : ¬ (k : Int) < (n : Int) := by omega
      have hkn : k = n := by omega
      subst hkn
      go_wp2
      go_ret
      exact ⟨_, rfl, HVk.out, HSk.out, HWk.out⟩
end Go.Proofs.Ytiegeejbnplhdaa
