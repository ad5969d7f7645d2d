/- A map of slices that is kept by 'm[k] = append(m[k], x)' as the translation has it: an entry found or made, an append, a store into the entry; which rows its slices lie in, and that it stays where these stay. Nothing of this program. -/
import Derived.Maps.OwnRows
import Derived.WideKeyEntry
import Derived.Test.YtenggngcigkakaaGreatDoorHm
namespace Go.Proofs.YtenggngcigkakaaGreatDoor
open Go.ChangeMaps Go.MapKept Go.ChangeShapes Go.RowKit
open Go.WideElems (Fit rd rg pl rd_val elemAt findIdx_born findIdx_arr modify_last set_self)
open Go.Maps (Keyed)
open Go.WideMaps (KeyLaw)

theorem own_same {w w' : World} {base n s : Nat} {e : TypeId} {v : Value} {xs : List Value} (h : w.ownsRow base e s v n xs) (k : ∀ g, v.ownBlock = some g → w'.heap[g]? = w.heap[g]?) : w'.ownsRow base e s v n xs := by
  refine ⟨h.1, ?_⟩
  rcases h.2 with h | ⟨g, cap, cur, h1, h2, h3, h4⟩
  · exact .inl h
  · exact .inr ⟨g, cap, cur, h1, h2, (k g (by rw [h1]; rfl)).trans h3, h4⟩

/-- Block g is the row of one of the map's elements. -/
def gfoot (w : World) (b g : Nat) : Prop := ∃ es clock, w.heap[b]? = some (.map es clock) ∧ ∃ x ∈ es.toList, x.val.ownBlock = some g

section
variable {H : Type} {P : Program} {w : World} {k e : TypeId} {q : IntKind} {base b n : Nat} {D : DataW H}

theorem fit_owned {es : Array MapEntry} {clock : Nat} (F : Fit P k (rowElem (H := H) w base e q) es clock) : ∀ x ∈ es.toList, ∃ zs, w.ownsInts base e q x.val zs := fun x hx => by
  obtain ⟨y, hy⟩ := F.reads x hx
  obtain ⟨z, hz, _⟩ := rd_val hy
  obtain ⟨zs, ho, _⟩ := rowElem_inv hz
  exact ⟨zs, ho⟩
theorem gfoot_lt (h : w.ownsGroups (H := H) P k base e q b n D) {g : Nat} (hg : gfoot w b g) : base ≤ g ∧ g < w.heap.size := by
  obtain ⟨es, clock, hb, F, _⟩ := h
  obtain ⟨es', clock', hb', x, hx, hxg⟩ := hg
  rw [hb] at hb'
  injection hb' with hb'
  injection hb' with h1 h2
  subst h1
  obtain ⟨zs, ho⟩ := fit_owned F x hx
  exact ho.1.lt g hxg
/-- The row of an element is a row of integers. -/
theorem gfoot_type (h : w.ownsGroups (H := H) P k base e q b n D) {g : Nat} (hg : gfoot w b g) : ∃ cs, w.heap[g]? = some (.cells cs e (0, 0)) := by
  obtain ⟨es, clock, hb, F, _⟩ := h
  obtain ⟨es', clock', hb', x, hx, hxg⟩ := hg
  rw [hb] at hb'
  injection hb' with hb'
  injection hb' with h1 h2
  subst h1
  obtain ⟨zs, ho⟩ := fit_owned F x hx
  rcases ho.1.2 with ⟨e1, _⟩ | ⟨g', cap, cur, e1, _, h3, _⟩
  · rw [e1] at hxg; cases hxg
  · rw [e1] at hxg
    obtain rfl : g' = g := by simpa [Value.ownBlock] using hxg
    exact ⟨cur, h3⟩
theorem groups_same (h : w.ownsGroups (H := H) P k base e q b n D) {w' : World} (hb : w'.heap[b]? = w.heap[b]?) (hr : ∀ g, gfoot w b g → w'.heap[g]? = w.heap[g]?) : w'.ownsGroups (H := H) P k base e q b n D ∧ ∀ g, gfoot w' b g ↔ gfoot w b g := by
  obtain ⟨es, clock, hb0, F, hs, rfl, hbb, hlen, hap⟩ := h
  have keep : ∀ x ∈ es.toList, ∀ zs, w.ownsInts base e q x.val zs → w'.ownsInts base e q x.val zs := fun x hx zs ho =>
    ⟨own_same ho.1 fun g hg => hr g ⟨es, clock, hb0, x, hx, hg⟩, ho.2⟩
  have hs2 : ∀ x ∈ es.toList, ∀ z, rowElem (H := H) w base e q x.val = some z → rowElem w' base e q x.val = some z := by
    intro x hx z hz
    obtain ⟨ys, ho, rfl⟩ := rowElem_inv hz
    exact rowElem_mk (keep x hx _ ho)
  obtain ⟨F2, hmap2, _⟩ := F.stay hs2
  refine ⟨⟨es, clock, hb.trans hb0, F2, hs, by rw [hmap2], hbb, fun x hx zs ho => ?_, hap⟩, fun g => ?_⟩
  · obtain ⟨ys, hy⟩ := fit_owned F x hx
    rw [ho.unique (keep x hx _ hy)]
    exact hlen x hx ys hy
  · unfold gfoot
    rw [hb]

/-- The entry at a key, found or made; what is stored into it: in whatever world that holds the map. -/
theorem entry_all {R : Value → Option (DataW H × List MemPlace)} {t E : TypeId} {es : Array MapEntry} {clock : Nat} (K : KeyLaw P k) (ht : P.underlying t = some (.map k E)) {z : Value} (hz : ∀ u : World, (zeroValue E).run P u = .ok z u) (F : Fit P k R es clock)
    {key : Value} {kl : Lit} (hkey : keyOf P k key = some kl) :
    ∃ (v0 : Value) (st : Nat) (es1 : Array MapEntry) (clock1 : Nat), (∀ W : World, W.heap[b]? = some (.map es clock) → (Instr.mapEntry t (.map (some b)) key).run P W = .ok (.tuple #[v0, goInt st]) (setBlock W b (.map es1 clock1))) ∧
      ((∃ e0 ∈ es.toList, e0.key = key ∧ v0 = e0.val) ∨ ((∀ x ∈ es.toList, x.key ≠ key) ∧ v0 = z)) ∧
      ∀ val : Value, ∃ es' clock', (∀ W : World, W.heap[b]? = some (.map es1 clock1) → (Instr.entryStore t (.map (some b)) (goInt st) val).run P W = .ok () (setBlock W b (.map es' clock'))) ∧
        ∀ W : World, W.heap[b]? = some (.map es clock) → (Instr.mapUpdate t (.map (some b)) key val).run P W = .ok () (setBlock W b (.map es' clock')) := by
  obtain ⟨s1, s2, s3⟩ := F.stamped
  rcases K.find (default : World) hkey es.toList F.keys with ⟨h1, h2⟩ | ⟨j, e0, h1, h2, h3⟩
  · have find : ∀ W, (Instr.findKey k key es.toList).run P W = .ok none W := fun W => by
      rcases K.find W hkey es.toList F.keys with ⟨h, _⟩ | ⟨j, e0, _, h4, h5⟩
      · exact h
      · exact absurd h5 (h2 e0 (List.mem_of_getElem? h4))
    refine ⟨z, clock, es.push ⟨key, z, clock⟩, clock + 1, fun W hb => ?_, Or.inr ⟨h2, rfl⟩, fun val => ⟨es.push ⟨key, val, clock⟩, clock + 1, fun W hb => ?_, fun W hb => ?_⟩⟩
    · simp [Instr.mapEntry, run_underlying ht, MapKept.run_getObj_map hb, K.check W false hkey, find W, hz, MapKept.run_setObj_map _ hb, Result.andThen, setBlock]
    · have hidx : (es.push ⟨key, z, clock⟩).findIdx? (fun e => ((e.born : Nat) : Int) == ((clock : Nat) : Int)) = some es.size := by
        rw [findIdx_arr]
        have := findIdx_born (l := (es.push ⟨key, z, clock⟩).toList) (j := es.size) (e0 := ⟨key, z, clock⟩) (by
          simp only [Array.toList_push, List.map_append, List.map_cons, List.map_nil]
          refine List.nodup_append.2 ⟨s2, by simp, fun a ha c hc e1 => ?_⟩
          simp only [List.mem_singleton] at hc
          obtain ⟨x, hx, rfl⟩ := List.mem_map.1 ha
          have := s1 x hx
          omega) (by simp)
        exact this
      have hmod : (es.push ⟨key, z, clock⟩).modify es.size (fun e => { e with val := val }) = es.push ⟨key, val, clock⟩ := by
        apply Array.ext'
        rw [Array.toList_modify, Array.toList_push, Array.toList_push, ← Array.length_toList, modify_last]
      simp [Instr.entryStore, MapKept.run_getObj_map hb, asInt, asIntOf, goInt, hidx, hmod, MapKept.run_setObj_map _ hb, Result.andThen, setBlock]
    · simp [Instr.mapUpdate, run_underlying ht, MapKept.run_getObj_map hb, K.check W false hkey, find W, MapKept.run_setObj_map _ hb, Result.andThen, setBlock]
  · have hj : es[j]? = some e0 := by simpa using h2
    have find : ∀ W, (Instr.findKey k key es.toList).run P W = .ok (some (j, e0.val)) W := fun W => by
      rcases K.find W hkey es.toList F.keys with ⟨_, h⟩ | ⟨j', e', h4, h5, h6⟩
      · exact absurd h3 (h e0 (List.mem_of_getElem? h2))
      · have hjl : j < (es.toList.map (·.key)).length := by rw [List.length_map]; exact (List.getElem?_eq_some_iff.1 h2).1
        have e1 : j = j' := (List.getElem?_inj hjl s3).1 (by rw [List.getElem?_map, List.getElem?_map, h2, h5]; simp [h3, h6])
        subst e1
        rw [h5] at h2
        rw [h4, Option.some.inj h2]
    have hsame : es.modify j (fun e => { e with key := key }) = es := by
      apply Array.ext'
      rw [Array.toList_modify, modify_eq_set _ _ _ _ h2]
      have : ({ e0 with key := key } : MapEntry) = e0 := by rw [← h3]
      rw [this]
      exact set_self _ _ _ h2
    refine ⟨e0.val, e0.born, es, clock, fun W hb => ?_, Or.inl ⟨e0, List.mem_of_getElem? h2, h3, rfl⟩, fun val => ⟨es.modify j (fun e' => { e' with key := key, val := val }), clock, fun W hb => ?_, fun W hb => ?_⟩⟩
    · simp [Instr.mapEntry, run_underlying ht, MapKept.run_getObj_map hb, K.check W false hkey, find W, hj, h3, K.stays W hkey, hsame, MapKept.run_setObj_map _ hb, Result.andThen, setBlock]
    · have hidx : es.findIdx? (fun e => ((e.born : Nat) : Int) == ((e0.born : Nat) : Int)) = some j := by
        rw [findIdx_arr]
        exact findIdx_born s2 h2
      have hmod : es.modify j (fun e => { e with val := val }) = es.modify j (fun e' => { e' with key := key, val := val }) := by
        apply Array.ext'
        rw [Array.toList_modify, Array.toList_modify, modify_eq_set _ _ _ _ h2, modify_eq_set _ _ _ _ h2, ← h3]
      simp [Instr.entryStore, MapKept.run_getObj_map hb, asInt, asIntOf, goInt, hidx, hmod, MapKept.run_setObj_map _ hb, Result.andThen, setBlock]
    · simp [Instr.mapUpdate, run_underlying ht, MapKept.run_getObj_map hb, K.check W false hkey, find W, hj, h3, K.stays W hkey, MapKept.run_setObj_map _ hb, Result.andThen, setBlock]

theorem setBlock_eq {W : World} {b : Nat} {es es' es'' : Array MapEntry} {c c' c'' : Nat} (hb : W.heap[b]? = some (.map es c)) (h : setBlock W b (.map es' c') = setBlock W b (.map es'' c'')) : es' = es'' ∧ c' = c'' := by
  have h1 := heap_setBlock_same hb (.map es' c')
  rw [h, heap_setBlock_same hb] at h1
  injection h1 with h1
  injection h1 with h2 h3
  exact ⟨h2.symm, h3.symm⟩

/-- One round of the group-by: the entry at a key; whatever is then done to that element's row and to new blocks alone; the store into the entry. -/
theorem groups_entry (KL : KeyLaw P k) {t E : TypeId} (ht : P.underlying t = some (.map k E)) (hz : ∀ u : World, (zeroValue E).run P u = .ok (.slice none 0 0) u) (h : w.ownsGroups (H := H) P k base e q b n D) (hn : n < maxLen) {key : Value} {kl : Lit} (hkey : keyOf P k key = some kl) :
    ∃ (v : Value) (zs : List Int) (st : Nat) (o o1 : Obj), w.heap[b]? = some o ∧ (∀ W : World, W.heap[b]? = some o → (Instr.mapEntry t (.map (some b)) key).run P W = .ok (.tuple #[v, goInt st]) (setBlock W b o1)) ∧ (∀ W : World, W.heap[b]? = some o → (setBlock W b o1).heap[b]? = some o1 ∧ (∀ i, i ≠ b → (setBlock W b o1).heap[i]? = W.heap[i]?)) ∧
      D.atKey kl .nil = rowDatum q v zs ∧ w.ownsInts base e q v zs ∧ zs.length ≤ n ∧ (∀ g, v.ownBlock = some g → gfoot w b g) ∧
      ∀ (w2 : World) (v' : Value) (zs' : List Int), w2.heap[b]? = some o1 → w.heap.size ≤ w2.heap.size → (∀ i, i < w.heap.size → i ≠ b → some i ≠ v.ownBlock → w2.heap[i]? = w.heap[i]?) → w2.ownsInts base e q v' zs' → zs'.length ≤ n + 1 → (v'.ownBlock = v.ownBlock ∨ ∃ g, v'.ownBlock = some g ∧ w.heap.size ≤ g) →
        ∃ w3, (Instr.entryStore t (.map (some b)) (goInt st) v').run P w2 = .ok () w3 ∧ w3.ownsGroups (H := H) P k base e q b (n + 1) (D.put kl (rowDatum q v' zs')) ∧ w2.grownBy w3 (some b) ∧ (∀ g, gfoot w3 b g → gfoot w b g ∨ v'.ownBlock = some g) := by
  obtain ⟨es, clock, hb, F, hs, rfl, hbb, hlen, hap⟩ := h
  have K := Keyed.of_law KL
  have owned := fit_owned F
  obtain ⟨v, st, es1, clock1, hrun, hwhich, hst⟩ := entry_all (b := b) KL ht hz F hkey
  have hlook : ∃ zs, (DataW.map ((es.toList.map (rg P k (rowElem (H := H) w base e q))).foldr DataW.insert [])).atKey kl .nil = rowDatum q v zs ∧ w.ownsInts base e q v zs ∧ zs.length ≤ n := by
    rcases Maps.fit_look false K ht (hz w) hb F hkey with ⟨_, hno, hat⟩ | ⟨e0, y, hm0, h3, _, hR, hat, _⟩
    · rcases hwhich with ⟨e0, h1, h2, _⟩ | ⟨_, rfl⟩
      · exact absurd h2 (hno e0 h1)
      · exact ⟨[], hat _, World.ownsInts_nil _ _ _ _, Nat.zero_le _⟩
    · obtain ⟨zs, ho, rfl⟩ := rowElem_inv hR
      rcases hwhich with ⟨e1, h1, h2, rfl⟩ | ⟨hno, _⟩
      · have : e0 = e1 := by
          obtain ⟨_, _, s3⟩ := F.stamped
          obtain ⟨i, hi, hi2⟩ := List.getElem_of_mem hm0
          obtain ⟨j, hj, hj2⟩ := List.getElem_of_mem h1
          have e1' : i = j := (List.getElem?_inj (by rw [List.length_map]; exact hi) s3).1 (by rw [List.getElem?_map, List.getElem?_map, List.getElem?_eq_getElem hi, List.getElem?_eq_getElem hj]; simp [hi2, hj2, h3, h2])
          subst e1'
          exact hi2.symm.trans hj2
        subst this
        exact ⟨zs, hat _, ho, hlen e0 hm0 zs ho⟩
      · exact absurd h3 (hno e0 hm0)
  obtain ⟨zs, hat, hoi, hzl⟩ := hlook
  have hfoot : ∀ g, v.ownBlock = some g → gfoot w b g := fun g hg => by
    rcases hwhich with ⟨e0, h1, _, rfl⟩ | ⟨_, rfl⟩
    · exact ⟨es, clock, hb, e0, h1, hg⟩
    · cases hg
  have hvx : ∀ x ∈ es.toList, x.key ≠ key → x.val.ownBlock = none ∨ x.val.ownBlock ≠ v.ownBlock := fun x hx hne => by
    rcases hwhich with ⟨e0, h1, h2, rfl⟩ | ⟨_, rfl⟩
    · exact hap x hx e0 h1 (by rw [h2]; exact hne)
    · cases hx' : x.val.ownBlock with
      | none => exact .inl rfl
      | some g => exact .inr (fun h => by cases h)
  refine ⟨v, zs, st, _, .map es1 clock1, hb, hrun, fun W hW => ⟨heap_setBlock_same hW _, fun i hi => heap_setBlock_other hW _ hi⟩, hat, hoi, hzl, hfoot, ?_⟩
  intro w2 v' zs' hb2 hsz hg hown' hl' hloc
  obtain ⟨es', clock', hstore, hupd⟩ := hst v'
  have keep : ∀ x ∈ es.toList, x.key ≠ key → ∀ ys, w.ownsInts base e q x.val ys → w2.ownsInts base e q x.val ys := fun x hx hne ys ho =>
    ⟨own_same ho.1 fun g hxg => hg g (ho.1.lt g hxg).2 (by have := (ho.1.lt g hxg).1; omega) (fun e1 => by
      rcases hvx x hx hne with h | h
      · rw [h] at hxg; cases hxg
      · exact h (by rw [hxg]; exact e1)), ho.2⟩
  have hs1 : ∀ x ∈ es.toList, x.key ≠ key → ∀ z, rowElem (H := H) w base e q x.val = some z → rowElem w2 base e q x.val = some z := by
    intro x hx hne z hz
    obtain ⟨zs, ho, rfl⟩ := rowElem_inv hz
    exact rowElem_mk (keep x hx hne _ ho)
  obtain ⟨es'', clock'', hrun2, F', hput, _, _, hwho⟩ := Maps.fit_store (R' := rowElem w2 base e q) K ht hb F (Nat.lt_of_le_of_lt hs hn) hs1 hkey (rowElem_mk hown')
  have heq : es' = es'' ∧ clock' = clock'' := by
    have h1 := hupd w hb
    rw [hrun2] at h1
    injection h1 with _ h1
    exact setBlock_eq hb h1.symm
  obtain ⟨rfl, rfl⟩ := heq
  have hg2 : w2.grownBy (setBlock w2 b (.map es' clock')) (some b) := ⟨rfl, rfl, rfl, by simp [setBlock], fun i _ hi => heap_setBlock_other hb2 _ (fun e1 => hi (by rw [e1]))⟩
  have own_ne : ∀ {u : Value} {ys : List Int}, w2.ownsInts base e q u ys → u.ownBlock = none ∨ u.ownBlock ≠ some b := fun {u ys} ho => by
    cases hu : u.ownBlock with
    | none => exact Or.inl rfl
    | some g =>
      refine Or.inr (fun e1 => ?_)
      have := (ho.1.lt g hu).1
      cases e1
      omega
  have hs2 : ∀ x ∈ es'.toList, ∀ z, rowElem (H := H) w2 base e q x.val = some z → rowElem (setBlock w2 b (.map es' clock')) base e q x.val = some z := by
    intro x _ z hz
    obtain ⟨ys, ho, rfl⟩ := rowElem_inv hz
    exact rowElem_mk (ho.kept hg2 (own_ne ho))
  obtain ⟨F2, hmap2, _⟩ := F'.stay hs2
  have old_new : ∀ x ∈ es.toList, x.key ≠ key → x.val.ownBlock = none ∨ x.val.ownBlock ≠ v'.ownBlock := by
    intro x hx hne
    rcases hloc with h1 | ⟨g, h1, h2⟩
    · rw [h1]
      exact hvx x hx hne
    · cases hx' : x.val.ownBlock with
      | none => exact Or.inl rfl
      | some gx =>
        obtain ⟨ys, ho⟩ := owned x hx
        have := (ho.1.lt gx hx').2
        refine Or.inr (fun e1 => ?_)
        rw [h1] at e1
        cases e1
        omega
  refine ⟨_, hstore w2 hb2, ⟨es', clock', heap_setBlock_same hb2 _, F2, ?_, ?_, hbb, ?_, ?_⟩, hg2, ?_⟩
  · have e1 : es'.size = ((es'.toList.map (rg P k (rowElem (H := H) w2 base e q))).foldr DataW.insert []).length := by rw [length_sorted]; simp
    rw [e1, hput]
    unfold putKey
    rw [length_insert]
    have e2 := List.length_filter_le (notKey kl) ((es.toList.map (rg P k (rowElem (H := H) w base e q))).foldr DataW.insert [])
    rw [length_sorted] at e2
    simp at e2
    omega
  · rw [hmap2, DataW.put_eq, hput]
  · intro x hx ys ho
    have back : w2.ownsInts base e q x.val ys := by
      obtain ⟨ys', ho'⟩ := fit_owned F' x hx
      rw [ho.unique (ho'.kept hg2 (own_ne ho'))]
      exact ho'
    rcases hwho x hx with ⟨hx0, hne⟩ | ⟨_, hval⟩
    · obtain ⟨ys0, ho0⟩ := owned x hx0
      have := hlen x hx0 ys0 ho0
      rw [back.unique (keep x hx0 hne _ ho0)]
      omega
    · rw [hval] at back
      rw [back.unique hown']
      exact hl'
  · intro x hx y hy hne
    rcases hwho x hx with ⟨hx0, hxk⟩ | ⟨hxk, hxv⟩ <;> rcases hwho y hy with ⟨hy0, hyk⟩ | ⟨hyk, hyv⟩
    · exact hap x hx0 y hy0 hne
    · rw [hyv]
      exact old_new x hx0 hxk
    · rw [hxv]
      cases hv' : v'.ownBlock with
      | none => exact Or.inl rfl
      | some g =>
        refine Or.inr (fun e1 => ?_)
        rcases old_new y hy0 hyk with h | h
        · rw [h] at e1
          cases e1
        · exact h (by rw [hv', e1])
    · exact absurd (hxk.trans hyk.symm) hne
  · rintro g ⟨es3, c3, h3, x, hx, hxg⟩
    rw [heap_setBlock_same hb2] at h3
    injection h3 with h3
    injection h3 with h4 h5
    subst h4
    rcases hwho x hx with ⟨hx0, _⟩ | ⟨_, hval⟩
    · exact .inl ⟨es, clock, hb, x, hx0, hxg⟩
    · exact .inr (by rw [← hval]; exact hxg)
end
end Go.Proofs.YtenggngcigkakaaGreatDoor
