/- The contracts of slices.Delete (one element) and slices.Clone on resources; clear. -/
import Derived.Test.YthahmcipkchdjaaFz
import Derived.Deep.RegionLaw
import Derived.Lib.SliceRun
namespace Go.Proofs.Ythahmcipkchdjaa
open Go.RowKit

theorem Bk.puts {g : Nat} {t : TypeId} : ∀ {vs : List Value} {w : World} {cs : Array Value} (_ : Bk w g t cs) (o : Nat), ∃ cs', Bk (w.setCells g o vs) g t cs' ∧ cs'.size = cs.size
  | [], _, cs, h, _ => ⟨cs, h, rfl⟩
  | v :: vs, _, cs, h, o => by
    obtain ⟨cs', h1, h2⟩ := Bk.puts (h.put o v) (o + 1) (vs := vs)
    exact ⟨cs', h1, by rw [h2]; simp⟩
theorem Kept.puts {S : Nat → Prop} {a : World} {g : Nat} (hg : S g ∨ a.heap.size ≤ g) : ∀ {vs : List Value} {w : World} (_ : Kept S a w) (o : Nat), Kept S a (w.setCells g o vs)
  | [], _, h, _ => h
  | v :: _, _, h, o => Kept.puts hg (h.put (p := ⟨g, o, none⟩) hg.symm v) (o + 1)
theorem ocls_take (l : List Ro) (i : Nat) : (ocls l).take (i * 3) = ocls (l.take i) := by
  induction l generalizing i with
  | nil => simp [ocls]
  | cons a l ih =>
    cases i with
    | zero => simp [ocls]
    | succ i =>
      rw [ocls_cons, List.take_succ_cons, ocls_cons, ← ih i]
      have : a.cl.length = 3 := rfl
      rw [List.take_append, this, show (i + 1) * 3 - 3 = i * 3 by omega, List.take_of_length_le (by rw [this]; omega)]
theorem ocls_drop (l : List Ro) (i : Nat) : (ocls l).drop (i * 3) = ocls (l.drop i) := by
  induction l generalizing i with
  | nil => simp [ocls]
  | cons a l ih =>
    cases i with
    | zero => simp [ocls]
    | succ i =>
      rw [ocls_cons, List.drop_succ_cons, ← ih i]
      have : a.cl.length = 3 := rfl
      rw [List.drop_append, this, show (i + 1) * 3 - 3 = i * 3 by omega, List.drop_eq_nil_of_le (by rw [this]; omega), List.nil_append]
theorem zeroOut (w : World) : (zeroValue 25).run Try.prog w = .ok (.agg #[.int .i64 0, .int .i64 0, .int .u32 0]) w := by kernel_rfl
def zo : Array Value := #[.int .i64 0, .int .i64 0, .int .u32 0]
theorem zo_one (n : Nat) : ∀ v ∈ (Builtin.zeroCells zo n).toList, v.oneCell' = true := by
  intro v hv
  rw [Array.mem_toList_iff] at hv
  unfold Builtin.zeroCells at hv
  obtain ⟨i, _, rfl⟩ := Array.mem_map.1 hv
  have h : i % 3 < 3 := Nat.mod_lt _ (by decide)
  show (zo[i % 3]!).oneCell' = true
  generalize i % 3 = k at h
  match k, h with
  | 0, _ => rfl
  | 1, _ => rfl
  | 2, _ => rfl
theorem zo_len (n : Nat) : (Builtin.zeroCells zo n).toList.length = n * 3 := by simp [Builtin.zeroCells, zo]
/-- clear of m elements from element a on. -/
theorem run_clear_at {W : World} {g : Nat} {cur : Array Value} (hk : Bk W g 25 cur) (a m c : Nat) (hm : 0 < m) (hs : (a + m) * 3 ≤ cur.size) (ty : TypeId) :
    (Builtin.clear_ #[36] ty #[.slice (some ⟨g, a * 3, none⟩) m c]).run Try.prog W = .ok (.tuple #[]) (W.setRow g (cur.toList.take (a * 3) ++ (Builtin.zeroCells zo m).toList ++ cur.toList.drop (a * 3 + m * 3)).toArray) := by
  have hu := Try.underlying36
  obtain ⟨m, rfl⟩ : ∃ m', m = m' + 1 := ⟨m - 1, by omega⟩
  have hst := run_storeCells_at Try.prog g (a * 3) 25 (Builtin.zeroCells zo (m + 1)).toList 0 cur W hk (by rw [zo_len]; omega) (zo_one _)
  rw [zo_len, Nat.add_zero] at hst
  have hz := zeroOut
  have hzc : (Value.agg #[.int .i64 0, .int .i64 0, .int .u32 0]).cells = zo := rfl
  have key : ∀ R, (storeCells ⟨g, a * 3, none⟩ (Builtin.zeroCells zo (m + 1)).toList).run Try.prog W = .ok () (W.setRow g R) → (Builtin.clear_ #[36] ty #[.slice (some ⟨g, a * 3, none⟩) (m + 1) c]).run Try.prog W = .ok (.tuple #[]) (W.setRow g R) := fun R hst => by
    simp [Builtin.clear_, run_underlying hu, hz, hzc, hst]
  exact key _ hst
theorem Bk.setRow {W : World} {g : Nat} {t : TypeId} {cur : Array Value} (hk : Bk W g t cur) (R : Array Value) : Bk (W.setRow g R) g t R ∧ Kept (· = g) W (W.setRow g R) :=
  ⟨setRow_heap W g cur R t (0, 0) hk, rfl, rfl, rfl, by simp, fun k _ h => setRow_other W g k _ h⟩

/-! ### slices.Delete -/
/-- The world behind the append, and behind clear. -/
theorem del_fin {w : World} {base g cap i r : Nat} {cur : Array Value} {l : List Ro} (hk : Bk w g 25 cur) (hs : cur.size = cap * 3) (ht : cur.toList.take (l.length * 3) = ocls l) (hb : base ≤ g) (hn : l.length = i + 1 + r) (hc : l.length ≤ cap) (hm : cap ≤ maxLen) :
    ∃ cur1, Bk (w.setCells g (0 + i * 3) (ocls (l.drop (i + 1)))) g 25 cur1 ∧ cur1.size = cap * 3 ∧ Kept (· = g) w (w.setCells g (0 + i * 3) (ocls (l.drop (i + 1)))) ∧
      ∀ ty c, ∃ w2, (Builtin.clear_ #[36] ty #[.slice (some ⟨g, (i + r) * 3, none⟩) 1 c]).run Try.prog (w.setCells g (0 + i * 3) (ocls (l.drop (i + 1)))) = .ok (.tuple #[]) w2 ∧ w2.ownsRow base 25 3 (.slice (some ⟨g, 0, none⟩) (i + r) cap) (l.eraseIdx i).length (ocls (l.eraseIdx i)) ∧ Kept (· = g) w w2 := by
  obtain ⟨cur1, h1, h2⟩ := hk.puts (0 + i * 3) (vs := ocls (l.drop (i + 1)))
  have k1 : Kept (· = g) w (w.setCells g (0 + i * 3) (ocls (l.drop (i + 1)))) := Kept.puts (S := (· = g)) (g := g) (.inl rfl) (Kept.refl _ _) _
  have hel : l.eraseIdx i = l.take i ++ l.drop (i + 1) := List.eraseIdx_eq_take_drop_succ l i
  have hlen : (l.eraseIdx i).length = i + r := by rw [hel]; simp; omega
  have hdl : (ocls (l.drop (i + 1))).length = r * 3 := by rw [ocls_length]; simp; omega
  have htk : cur1.toList.take ((i + r) * 3) = ocls (l.eraseIdx i) := by
    refine List.ext_getElem? fun j => ?_
    by_cases hj : j < (i + r) * 3
    · rw [List.getElem?_take_of_lt hj, Array.getElem?_toList, ← h1.cell, hel, ocls_append]
      have hti : (ocls (l.take i)).length = i * 3 := by rw [ocls_length]; simp; omega
      by_cases c : j < i * 3
      · rw [List.getElem?_append_left (by rw [hti]; exact c), World.cell?_setCells_out _ _ _ _ _ (fun _ _ => by show j < 0 + i * 3 ∨ _; omega), hk.cell, ← ocls_take, List.getElem?_take_of_lt c, ← ht, List.getElem?_take_of_lt (by omega), Array.getElem?_toList]
      · rw [List.getElem?_append_right (by rw [hti]; omega), hti]
        have hin := World.cell?_setCells_in g (ocls (l.drop (i + 1))) (0 + i * 3) w (fun q hq => by rw [hk.cell, Array.getElem?_eq_getElem (by rw [hdl] at hq; omega)]; rfl) (j - i * 3) (by rw [hdl]; omega)
        rw [show 0 + i * 3 + (j - i * 3) = j by omega] at hin
        rw [hin, List.getElem?_eq_getElem (by rw [hdl]; omega)]
    · rw [List.getElem?_eq_none (by rw [List.length_take]; omega), List.getElem?_eq_none (by rw [ocls_length, hlen]; omega)]
  refine ⟨cur1, h1, h2.trans hs, k1, fun ty c => ?_⟩
  have hrun := run_clear_at h1 (i + r) 1 c (by omega) (by rw [h2, hs]; omega) ty
  obtain ⟨h3, k3⟩ := h1.setRow (cur1.toList.take ((i + r) * 3) ++ (Builtin.zeroCells zo 1).toList ++ cur1.toList.drop ((i + r) * 3 + 1 * 3)).toArray
  refine ⟨_, hrun, ⟨by rw [ocls_length], .inr ⟨g, cap, _, by rw [hlen], hb, h3, by rw [hlen]; omega, hm, ?_, ?_⟩⟩, k1.trans k3⟩
  · have e1 : cur1.toList.length = cap * 3 := by rw [Array.length_toList, h2, hs]
    simp only [List.size_toArray, List.length_append, List.length_take, List.length_drop, zo_len]
    rw [e1]; omega
  · rw [hlen, List.append_assoc, List.take_append_of_le_length (by rw [List.length_take, Array.length_toList, h2, hs]; omega), List.take_take, Nat.min_self, htk]
set_option maxHeartbeats 4000000 in
set_option maxRecDepth 1000000 in
theorem delete_ok (base i r cap : Nat) (g : Nat) (l : List Ro) (hn : l.length = i + 1 + r) (_hl : l.length ≤ 1000) (w : World) (h : w.ownsRow base 25 3 (.slice (some ⟨g, 0, none⟩) (i + 1 + r) cap) l.length (ocls l)) :
    Calls Try.prog 22 #[.slice (some ⟨g, 0, none⟩) (i + 1 + r) cap, .int .i64 i, .int .i64 (i + 1)] w fun e w' => e = .returned (.slice (some ⟨g, 0, none⟩) (i + r) cap) ∧ Hid (w'.ownsRow base 25 3 (.slice (some ⟨g, 0, none⟩) (i + r) cap) (l.eraseIdx i).length (ocls (l.eraseIdx i)) ∧ Kept (· = g) w w') := by
  rcases h.2 with ⟨e, h0⟩ | ⟨g', cap', cur, e, hb, hk, h3, h4, h5, h6⟩
  · injection e with e1 e2 e3
    cases e1
  · injection e with e1 e2 e3
    injection e1 with e1
    injection e1 with e1
    subst e1 e3
    have hk : Bk w g 25 cur := hk
    have hkd : Bk w.drew g 25 cur := hk
    obtain ⟨j0, hj, hy0, hy1, hy2⟩ := info_parts info_out
    obtain ⟨cur1, hb1, hs1, hk1, hfin⟩ := del_fin (w := w.drew) (base := base) (cap := cap) (i := i) (r := r) hkd h5 h6 hb hn h3 h4
    obtain ⟨w2, hcl, ho2, hk2⟩ := hfin 0 (cap - (i + r))
    have s1 : Hid ((ocls (l.drop (i + 1))).length = r * 3) := by rw [ocls_length, List.length_drop]; show _ = _; omega
    have s2 : Hid (∀ u ∈ ocls (l.drop (i + 1)), u.oneCell' = true) := ocls_one _
    have s3 : Hid (∀ t, t < (ocls (l.drop (i + 1))).length → (w.drew.cell? ⟨g, 0 + i * 3 + t, none⟩).isSome = true ∧ w.drew.frozen? ⟨g, 0 + i * 3 + t, none⟩ = false) := fun t ht => by
      rw [s1.out] at ht
      refine ⟨?_, hkd.frozen _⟩
      rw [hkd.cell, Array.getElem?_eq_getElem (by omega)]; rfl
    obtain ⟨A, hA, hsrc⟩ : ∃ A : Addr, (if cap = i + 1 then some (⟨g, 0, none⟩ : Addr) else some ⟨g, (i + 1) * 3, none⟩) = some A ∧ Hid (∀ t u, (ocls (l.drop (i + 1)))[t]? = some u → w.drew.cell? (A.add t) = some u) := by
      by_cases c : cap = i + 1
      · refine ⟨_, if_pos c, fun t u hu => ?_⟩
        have : r = 0 := by omega
        subst this
        have := (List.getElem?_eq_some_iff.1 hu).1
        rw [s1.out] at this; omega
      · refine ⟨_, if_neg c, fun t u hu => ?_⟩
        have ht := (List.getElem?_eq_some_iff.1 hu).1
        rw [s1.out] at ht
        have e : (⟨g, (i + 1) * 3, none⟩ : Addr).add t = ⟨g, (i + 1) * 3 + t, none⟩ := by unfold Addr.add; split <;> simp_all
        rw [e, hkd.cell]
        rw [← ocls_drop, List.getElem?_drop, ← h6, List.getElem?_take_of_lt (by omega), Array.getElem?_toList] at hu
        exact hu
    have HFIN : Hid (w2.ownsRow base 25 3 (.slice (some ⟨g, 0, none⟩) (i + r) cap) (l.eraseIdx i).length (ocls (l.eraseIdx i)) ∧ Kept (· = g) w w2) := ⟨ho2, ⟨hk2.os, hk2.tape, hk2.output, hk2.size, hk2.block⟩⟩
    rw [hn] at h3
    have hcm : cap ≤ 9223372036854775807 := by unfold maxLen at h4; omega
    have mixed : Try.prog.follows .mixedOrders = true := by kernel_rfl
    have hic : i ≤ cap := by omega
    have hq1 : (0 : Int) ≤ (i : Int) + 1 := by omega
    have hq2 : (i : Int) + 1 ≤ (i : Int) + 1 + (r : Int) := by omega
    have hq4 : i + 1 + r - (i + r) = 1 := by omega
    rw [Nat.zero_add] at hcl
    have hq3 : i + (i + 1 + r - (i + 1)) = i + r := by omega
    have hjc : i + 1 ≤ cap := by omega
    have hl := hn ▸ _hl
    generalize ocls (l.drop (i + 1)) = news at *
    clear h ho2 hk2 hfin hk1 hb1 hs1 hk hkd h4 h5 h6 hn hb e2
    go_enter Try.func22, Try.ntmps22
    go_wp2_with fail
    go_region_law_o (refine step_append_room rfl (.tmp 22) (.tmp 25) 36 rfl 25 j0 3 Try.underlying36 hj hy1 g 0 i cap (by simp [Act.eval, Act.put]) A r (cap - (i + 1)) news (by simp [Act.eval, Act.put]) s1.out hsrc.out s2.out (by omega) s3.out ?_)
    go_wp2
    go_ret
    exact ⟨rfl, HFIN⟩

/-! ### slices.Clone -/
theorem RdO.news {w : World} {ad : Addr} {n c : Nat} {l : List Ro} (h : RdO w (.slice (some ad) n c) l) : ∀ j u, (ocls l)[j]? = some u → w.cell? (ad.add j) = some u := by
  intro j u hj
  obtain ⟨a', c', e, h1, h2, h3, h4⟩ := h
  injection e with e1 e2 e3
  have hl : 0 < l.length := by
    have := (List.getElem?_eq_some_iff.1 hj).1
    rw [ocls_length] at this
    omega
  obtain ⟨g, off, e4, hg, hc⟩ := h4 hl
  rw [← e1] at e4
  obtain rfl := Option.some.inj e4
  have e : (⟨g, off, none⟩ : Addr).add j = ⟨g, off + j, none⟩ := by unfold Addr.add; split <;> simp_all
  rw [e]; exact hc j u hj
set_option maxHeartbeats 1000000 in
/-- Of a slice that has elements. -/
theorem clone_ok (b : Addr) (n c : Nat) (l : List Ro) (w : World) (h : RdO w (.slice (some b) n c) l) (hl : l.length ≤ 1000) (h0 : 0 < l.length) :
    Calls Try.prog 31 #[.slice (some b) n c] w fun e w' => ∃ g c', e = .returned (.slice (some ⟨g, 0, none⟩) n c') ∧ Hid (w'.ownsRow w.heap.size 25 3 (.slice (some ⟨g, 0, none⟩) n c') l.length (ocls l) ∧ Below w.heap.size w w') := by
  obtain ⟨hn, h1, h2, h3⟩ := h.cap
  subst hn
  obtain ⟨j0, hj, hy0, hy1, hy2⟩ := info_parts info_out
  have heq := Lib.run_eql_slice_nil (P := Try.prog) w 36 25 (some b) l.length c 0 0 Try.underlying36
  have hbn : Below w.heap.size w (w.alloc (.cells #[] 25)) := (Below.refl _ w).alloc (Nat.le_refl _) _
  have H := Lib.hid (h.below hbn)
  have HO : Hid ((w.alloc (.cells #[] 25)).ownsRow w.heap.size 25 3 (.slice (some ⟨w.heap.size, 0, none⟩) 0 0) 0 []) := World.ownsRow_lit w #[] 0 (Nat.le_refl _) (by decide) rfl
  clear h h3 hbn
  go_enter Try.func31, Try.ntmps31
  go_wp2_with (at_builtin; refine wpList_append_own _ rfl _ _ 36 rfl w.heap.size 25 j0 _ 3 24 Try.underlying36 hj hy0 hy1 hy2 rfl (by decide) _ 0 [] rfl HO.out b l.length c (ocls l) rfl (ocls_length l) H.out.news (ocls_one l) ?c1 ?c2 ?c3 ?_)
  case c1 => unfold maxLen; omega
  case c2 => omega
  case c3 => simp
  intro v' w1 hown hgrow _
  have hown' : w1.ownsRow w.heap.size 25 3 v' l.length (ocls l) := by simpa using hown
  have HV : Hid (∃ g c', v' = .slice (some ⟨g, 0, none⟩) l.length c') := by
    rcases hown'.2 with ⟨_, h0'⟩ | ⟨g', cap, cur, e, _⟩
    · omega
    · exact ⟨g', cap, e⟩
  have HB : Hid (Below w.heap.size w w1) := ((Below.refl _ w).alloc (Nat.le_refl _) _).grown hgrow (by simp) (fun k hk => (HO.out.lt k hk).1)
  obtain ⟨g, c', rfl⟩ := HV.out
  have HW := Lib.hid hown'
  clear hown hown' hgrow HV
  go_wp2
  go_ret
  exact ⟨g, c', rfl, HW.out, HB.out⟩
end Go.Proofs.Ythahmcipkchdjaa
