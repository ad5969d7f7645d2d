/- The contract of the program's take. -/
import Derived.Test.YtlnjgbdekcgmpaaEe
namespace Go.Proofs.Ytlnjgbdekcgmpaa
open Go.RowKit

set_option maxHeartbeats 2000000 in
theorem take_ok (k m n : Nat) (v : Value) (T : Int → Option Int) (xs : List Int) (id : Int) (hi : I64 id) (w : World) (h : LineW w k m v n T xs) (hT : (T id).isSome = true) (hs : Srt (ens T xs)) (hl : xs.length ≤ 256) (hp : pos (ens T xs) (id, ti T id) < xs.length) :
    Calls Try.prog 34 #[.pointer (some ⟨k, 0, none⟩), .int .i64 id] w fun e w' => e = .returned (.tuple #[]) ∧ PutPost k m v (n - 1) (upd T id none) (xs.take (pos (ens T xs) (id, ti T id)) ++ xs.drop (pos (ens T xs) (id, ti T id) + 1)) w w' := by
  have PL := Lib.hid (place_ok k m n v T xs id hi w h hs (by omega))
  generalize pos (ens T xs) (id, ti T id) = p at *
  have IN : ∀ W, Below w.heap.size w W → Calls Try.prog 41 #[v, .int .i64 p, .int .i64 ((p : Int) + 1)] W fun e w' => ∃ a n' c w5, e = .returned (.slice a n' c) ∧ w'.cell? ⟨k, 1, none⟩ = some v ∧ w'.frozen? ⟨k, 1, none⟩ = false ∧ (w'.setCell ⟨k, 1, none⟩ (.slice a n' c)).cell? ⟨k, 0, none⟩ = some (.map (some m)) ∧
      (Builtin.delete_ #[55, 3] 0 #[.map (some m), .int .i64 id]).run Try.prog (w'.setCell ⟨k, 1, none⟩ (.slice a n' c)) = .ok (.tuple #[]) w5 ∧ PutPost k m v (n - 1) (upd T id none) (xs.take p ++ xs.drop (p + 1)) w w5 := fun W hW => by
    have LW := h.below hW
    refine (delete_ok v xs p hp W LW.row).mono ?_
    rintro e w' ⟨v', rfl, hrow, hk, hv'⟩
    have hk' : Bk w' k 57 #[.map (some m), v] := LW.hk.kept hk LW.rk
    have hvk : v'.ownBlock ≠ some k := by
      rcases hv' with e | ⟨g, e, hg⟩
      · rw [e]; exact LW.rk
      · rw [e]; intro e2; have := LW.hk.lt; have := Option.some.inj e2; omega
    have hvm : v'.ownBlock ≠ some m := by
      rcases hv' with e | ⟨g, e, hg⟩
      · rw [e]; exact LW.rm
      · rw [e]; intro e2; have := LW.map.lt; have := Option.some.inj e2; omega
    have hkm := h.km
    obtain ⟨a, n', c, rfl⟩ := own_slice hrow
    have hm2 : MapW (w'.setCell ⟨k, 1, none⟩ (.slice a n' c)) m n T := (LW.map.same (hk.block m LW.map.lt LW.rm)).same (Below.heap_setCell _ _ _ _ hkm.symm)
    obtain ⟨w5, hr5, hm5, hk5⟩ := hm2.drop hi hT 0
    have hkb : Bk (w'.setCell ⟨k, 1, none⟩ (.slice a n' c)) k 57 #[.map (some m), .slice a n' c] := hk'.put 1 _
    have hrow2 : (w'.setCell ⟨k, 1, none⟩ (.slice a n' c)).ownsRow 0 3 1 (.slice a n' c) (xs.length - 1) (ints (xs.take p ++ xs.drop (p + 1))) := own_same hrow fun g hg => Below.heap_setCell _ _ _ _ (by rintro rfl; exact hvk hg)
    refine ⟨a, n', c, w5, rfl, hk'.cell 1, hk'.frozen 1, hkb.cell 0, hr5, _, ⟨hkb.kept hk5 hkm, ?_, hm5, ?_⟩, ?_, ?_⟩
    · have e1 : (xs.take p ++ xs.drop (p + 1)).length = xs.length - 1 := by simp; omega
      rw [e1]
      exact own_same hrow2 fun g hg => hk5.block g (hrow2.lt g hg).2 (by rintro rfl; exact hvm hg)
    · intro x hx2
      rcases List.mem_append.1 hx2 with h1 | h1
      · exact h.rg x (List.mem_of_mem_take h1)
      · exact h.rg x (List.mem_of_mem_drop h1)
    · have q2 : Kept (LFoot k m v) w W := Kept.of_below hW
      have q3 : Kept (LFoot k m v) w w' := q2.self (hk.mono fun g _ e => .inl (.inr (.inr e)))
      have q4 : Kept (LFoot k m v) w (w'.setCell ⟨k, 1, none⟩ (.slice a n' c)) := q3.put (p := ⟨k, 1, none⟩) (.inr (.inl rfl)) _
      exact q4.self (hk5.mono fun g _ e => .inl (.inr (.inl e)))
    · rcases hv' with e | ⟨g, e, hg⟩
      · exact .inl e
      · exact .inr ⟨g, e, by have := hW.size; omega⟩
  have PW : ∀ W, Below w.heap.size w W → W.cell? ⟨k, 1, none⟩ = some v := fun W hW => (h.below hW).c1
  have INh := Lib.hid IN
  have PWh := Lib.hid PW
  have hp256 : (p : Int) ≤ 256 := by omega
  clear IN PW hs hT h hi hl hp
  go_enter Try.func34, Try.ntmps34
  go_wp2_with (first
    | (go_at_call 40; refine PL.out.mono ?_; rintro e w2 ⟨rfl, hb2⟩; have HB := Lib.hid hb2; have hc2 := PWh.out w2 hb2; clear hb2)
    | (go_at_call 41; refine (INh.out _ HB.out).mono ?_; rintro e w3 ⟨a3, n3, c3, w5, rfl, hc3, hf3, hc4, hr5, hP⟩; have HP := Lib.hid hP; clear hP hc2))
  go_end0
  exact ⟨rfl, HP.out⟩
end Go.Proofs.Ytlnjgbdekcgmpaa
