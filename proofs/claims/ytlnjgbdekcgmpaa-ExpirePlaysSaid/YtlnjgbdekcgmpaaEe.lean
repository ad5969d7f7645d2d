/- The contract of the program's put. -/
import Derived.Test.YtlnjgbdekcgmpaaEd
namespace Go.Proofs.Ytlnjgbdekcgmpaa
open Go.RowKit

theorem ti_upd_same (T : Int → Option Int) (i t : Int) : ti (upd T i (some t)) i = t := by unfold ti; rw [upd_same]; rfl
theorem ens_upd (T : Int → Option Int) (i : Int) (t : Option Int) {xs : List Int} (h : i ∉ xs) : ens (upd T i t) xs = ens T xs := by
  unfold ens
  refine List.map_congr_left fun x hx => ?_
  unfold ti
  rw [upd_other _ (by rintro rfl; exact h hx)]

theorem own_slice {w : World} {b n s : Nat} {t : TypeId} {v : Value} {xs : List Value} (h : w.ownsRow b t s v n xs) : ∃ a n' c, v = .slice a n' c := by
  rcases h.2 with ⟨rfl, _⟩ | ⟨g, cap, cur, rfl, _⟩
  · exact ⟨_, _, _, rfl⟩
  · exact ⟨_, _, _, rfl⟩
def PutPost (k m : Nat) (v : Value) (n : Nat) (T : Int → Option Int) (l : List Int) (w w' : World) : Prop :=
  ∃ v', LineW w' k m v' n T l ∧ Kept (LFoot k m v) w w' ∧ (v'.ownBlock = v.ownBlock ∨ ∃ g, v'.ownBlock = some g ∧ w.heap.size ≤ g)

set_option maxHeartbeats 2000000 in
theorem put_ok (k m n : Nat) (v : Value) (T : Int → Option Int) (xs : List Int) (id t : Int) (hi : I64 id) (ht : I64 t) (w : World) (h : LineW w k m v n T xs) (hT : T id = none) (hx : id ∉ xs) (hs : Srt (ens T xs)) (hl : xs.length ≤ 256) (hn : n ≤ 256) :
    Calls Try.prog 31 #[.pointer (some ⟨k, 0, none⟩), .int .i64 id, .int .i64 t] w fun e w' => e = .returned (.tuple #[]) ∧ PutPost k m v (n + 1) (upd T id (some t)) (xs.take (pos (ens T xs) (id, t)) ++ id :: xs.drop (pos (ens T xs) (id, t))) w w' := by
  have hc0 := h.c0
  obtain ⟨w1, hr, hm1, hk1⟩ := h.map.store hi ht hT (by unfold maxLen; omega)
  have L1 : LineW w1 k m v (n + 1) (upd T id (some t)) xs := ⟨h.hk.kept hk1 h.km, own_same h.row fun g hg => hk1.block g (h.row.lt g hg).2 (by rintro rfl; exact h.rm hg), hm1, h.rg⟩
  have hp : pos (ens (upd T id (some t)) xs) (id, ti (upd T id (some t)) id) = pos (ens T xs) (id, t) := by rw [ens_upd _ _ _ hx, ti_upd_same]
  have hpl : pos (ens T xs) (id, t) ≤ xs.length := by have := pos_le (ens T xs) (id, t); unfold ens at this; rw [List.length_map] at this; exact this
  have PL : ∀ W, Below w1.heap.size w1 W → Calls Try.prog 40 #[.pointer (some ⟨k, 0, none⟩), .int .i64 id] W fun e w' => e = .returned (.int .i64 (pos (ens T xs) (id, t))) ∧ w'.cell? ⟨k, 1, none⟩ = some v ∧ Below w1.heap.size w1 w' ∧ Below W.heap.size W w' := fun W hW => by
    have := place_ok k m (n + 1) v (upd T id (some t)) xs id hi W (L1.below hW) (by rw [ens_upd _ _ _ hx]; exact hs) (by omega)
    rw [hp] at this
    exact this.mono fun e w' ⟨h1, h2⟩ => ⟨h1, (L1.below (hW.trans (h2.mono hW.size))).c1, hW.trans (h2.mono hW.size), h2⟩
  generalize pos (ens T xs) (id, t) = p at *
  have IN : ∀ W vb, Below w1.heap.size w1 W → Bk W vb 3 #[.int .i64 id] → w1.heap.size ≤ vb → Calls Try.prog 39 #[v, .int .i64 p, .slice (some ⟨vb, 0, none⟩) 1 1] W fun e w' => ∃ a n' c, e = .returned (.slice a n' c) ∧ w'.cell? ⟨k, 1, none⟩ = some v ∧ w'.frozen? ⟨k, 1, none⟩ = false ∧ PutPost k m v (n + 1) (upd T id (some t)) (xs.take p ++ id :: xs.drop p) w (w'.setCell ⟨k, 1, none⟩ (.slice a n' c)) := fun W vb hW hb hvb => by
    have LW := L1.below hW
    refine (insert_ok v xs p hpl vb id W LW.row hb (fun e => by have := (L1.row.lt vb e).2; omega) (by omega)).mono ?_
    rintro e w' ⟨v', rfl, hrow, hk, hv'⟩
    have hk' : Bk w' k 57 #[.map (some m), v] := LW.hk.kept hk LW.rk
    have hvk : v'.ownBlock ≠ some k := by
      rcases hv' with e | ⟨g, e, hg⟩
      · rw [e]; exact LW.rk
      · rw [e]; intro e2; have := LW.hk.lt; have := Option.some.inj e2; omega
    have hkm := h.km
    obtain ⟨a, n', c, rfl⟩ := own_slice hrow
    refine ⟨a, n', c, rfl, hk'.cell 1, hk'.frozen 1, _, ⟨hk'.put 1 _, ?_, ?_, ?_⟩, ?_, ?_⟩
    · have e1 : (xs.take p ++ id :: xs.drop p).length = xs.length + 1 := by simp; omega
      rw [e1]
      exact own_same hrow fun g hg => Below.heap_setCell _ _ _ _ (by rintro rfl; exact hvk hg)
    · exact (LW.map.same (hk.block m LW.map.lt LW.rm)).same (Below.heap_setCell _ _ _ _ hkm.symm)
    · intro x hx2
      rcases List.mem_append.1 hx2 with h1 | h1
      · exact h.rg x (List.mem_of_mem_take h1)
      · rcases List.mem_cons.1 h1 with rfl | h1
        · exact hi
        · exact h.rg x (List.mem_of_mem_drop h1)
    · have q1 : Kept (LFoot k m v) w w1 := hk1.mono fun g _ e => .inr (.inl e)
      have q2 : Kept (LFoot k m v) w W := q1.trans (Kept.of_below hW)
      have q3 : Kept (LFoot k m v) w w' := q2.self (hk.mono fun g _ e => .inl (.inr (.inr e)))
      exact q3.put (p := ⟨k, 1, none⟩) (.inr (.inl rfl)) _
    · rcases hv' with e | ⟨g, e, hg⟩
      · exact .inl e
      · exact .inr ⟨g, e, by have := hW.size; have := hk1.size; omega⟩
  have hc1 : w1.cell? ⟨k, 1, none⟩ = some v := L1.c1
  have hlt1 := World.block_lt_of_cell? _ _ hc1
  have b0 : Hid (Below w1.heap.size w1 w1.drew) := bel_drew (Below.refl _ _)
  have b1 : ∀ c, Hid (Below w1.heap.size w1 (w1.alloc (.cells c 3)).drew) := fun c => bel_drew ((Below.refl _ _).alloc (Nat.le_refl _) _)
  have PLh := Lib.hid PL
  have INh := Lib.hid IN
  clear PL IN L1 hm1 hp hs hT hx hk1 h hi ht hl hn hpl
  go_enter Try.func31, Try.ntmps31
  go_wp2_with fail
  go_region_with (first
    | (go_at_call 40; (with_reducible refine (PLh.out _ b0.out).mono ?_); rintro e w2 ⟨rfl, hc2, hA, hb2⟩; have HA := Lib.hid hA; have hlt2 := World.block_lt_of_cell? _ _ hc2; clear hA hb2)
    | (go_at_call 40; (with_reducible refine (PLh.out _ (b1 _).out).mono ?_); rintro e w2 ⟨rfl, hc2, hA, hb2⟩; have HA := Lib.hid hA; have HK := Lib.hid (Bk.below (show Bk (w1.alloc (.cells #[.int .i64 id] 3)).drew w1.heap.size 3 #[.int .i64 id] from Bk.new w1 3 #[.int .i64 id]) hb2); have hlt2 := World.block_lt_of_cell? _ _ hc2; clear hA hb2)
    | (go_at_call 39; (with_reducible refine (INh.out _ _ (HA.out.alloc HA.out.size _) (Bk.new _ _ _) HA.out.size).mono ?_); rintro e w3 ⟨a3, n3, c3, rfl, hc3, hf3, hP⟩; have HP := Lib.hid hP; clear hP)
    | (go_at_call 39; (with_reducible refine (INh.out _ _ HA.out HK.out (Nat.le_refl _)).mono ?_); rintro e w3 ⟨a3, n3, c3, rfl, hc3, hf3, hP⟩; have HP := Lib.hid hP; clear hP))
  all_goals
    go_wp2
    go_end0
    exact ⟨rfl, HP.out⟩
end Go.Proofs.Ytlnjgbdekcgmpaa
