/- The contract of colour's Clear. -/
import Derived.Test.YthcpmcdgojgdlaaCi
import Derived.BigRegion
namespace Go.Proofs.Ythcpmcdgojgdlaa
open Go.RowKit

theorem run_clear (b : Nat) (P : Pt) (w : World) (h : PaW w b P) (ty : TypeId) :
    (Builtin.clear_ #[52] ty #[.slice (some ⟨b, 1, none⟩) P.n 256]).run Try.prog w = .ok (.tuple #[]) (w.setCells b 1 (List.replicate P.n (.int .i64 0))) := by
  have hn := h.ok.hi
  refine Lib.run_clear_slice (P := Try.prog) w 52 3 ty (.int .i64 0) Try.underlying52 (fun _ => by kernel_rfl) rfl rfl b 1 P.n 256 h.ok.lo (fun j hj => ?_) (fun j _ => h.fz _)
  rw [h.cs (i := j) (by omega)]; rfl
theorem clear_from (b : Nat) : ∀ (m j : Nat) (w : World) (Q : Pt), Bk w b 42 (pcells Q) →
    Bk (w.setCells b (1 + j) (List.replicate m (.int .i64 0))) b 42 (pcells ⟨Q.n, fun i => if j ≤ i ∧ i < j + m then 0 else Q.c i⟩) ∧ Kept (· = b) w (w.setCells b (1 + j) (List.replicate m (.int .i64 0)))
  | 0, j, w, Q, h => by
    refine ⟨?_, Kept.refl _ _⟩
    have e : (⟨Q.n, fun i => if j ≤ i ∧ i < j + 0 then 0 else Q.c i⟩ : Pt) = Q := by
      obtain ⟨n, c⟩ := Q
      congr 1
      funext i
      rw [if_neg (by omega)]
    rw [e]
    exact h
  | m + 1, j, w, Q, h => by
    have h1 : Bk (w.setCell ⟨b, 1 + j, none⟩ (.int .i64 (0 : Nat))) b 42 (pcells (Q.set j 0)) := by
      have := h.put (1 + j) (.int .i64 (0 : Nat))
      rwa [pcells_put] at this
    obtain ⟨h2, h3⟩ := clear_from b m (j + 1) _ _ h1
    have e : (⟨(Q.set j 0).n, fun i => if j + 1 ≤ i ∧ i < j + 1 + m then 0 else (Q.set j 0).c i⟩ : Pt) = ⟨Q.n, fun i => if j ≤ i ∧ i < j + (m + 1) then 0 else Q.c i⟩ := by
      show (⟨Q.n, _⟩ : Pt) = _
      congr 1
      funext i
      simp only [Pt.set, put]
      by_cases e : i = j
      · subst e
        rw [if_neg (by omega), if_pos rfl, if_pos (by omega)]
      · rw [if_neg e]
        by_cases h : j + 1 ≤ i ∧ i < j + 1 + m
        · rw [if_pos h, if_pos (by omega)]
        · rw [if_neg h, if_neg (by omega)]
    rw [e] at h2
    exact ⟨h2, ((Kept.refl _ w).put1 _ _).trans h3⟩
theorem cleared (b : Nat) (P : Pt) (w : World) (h : PaW w b P) : PaW (w.setCells b 1 (List.replicate P.n (.int .i64 0))) b (white P.n) ∧ Kept (· = b) w (w.setCells b 1 (List.replicate P.n (.int .i64 0))) := by
  obtain ⟨h1, h2⟩ := clear_from b P.n 0 w P h.bk
  refine ⟨⟨h.ok.white, ?_⟩, h2⟩
  have e : (⟨P.n, fun i => if 0 ≤ i ∧ i < 0 + P.n then 0 else P.c i⟩ : Pt) = white P.n := by
    show _ = (⟨P.n, fun _ => 0⟩ : Pt)
    congr 1
    funext i
    by_cases hi : i < P.n
    · rw [if_pos (by omega)]
    · rw [if_neg (by omega), h.ok.out i (by omega)]
  rw [e] at h1
  exact h1
set_option maxHeartbeats 4000000 in
theorem clear_ok (b : Nat) (P : Pt) (w : World) (h : PaW w b P) : Calls Try.prog 20 #[.pointer (some ⟨b, 0, none⟩)] w fun e w' => e = .returned (.tuple #[]) ∧ PaW w' b (white P.n) ∧ Kept (· = b) w w' := by
  have H := Lib.hid h
  have hn := h.ok.hi
  have hc0 := h.c0
  have hsl := slice_run b P.n hn
  have hcl1 : ∀ ty, (Builtin.clear_ #[52] ty #[.slice (some ⟨b, 1, none⟩) P.n 256]).run Try.prog w.drew = .ok (.tuple #[]) (w.drew.setCells b 1 (List.replicate P.n (.int .i64 0))) := fun ty => run_clear b P w.drew (show PaW w.drew b P from h.same rfl) ty
  have HC := Lib.hid (cleared b P w.drew (show PaW w.drew b P from h.same rfl))
  clear h
  go_enter Try.func20, Try.ntmps20
  go_wp2_with (go_at_call 35; refine (valid_yes _ _ _ H.out).mono ?_; rintro e w' ⟨rfl, rfl⟩)
  go_region
  go_wp2
  go_end0
  exact ⟨rfl, HC.out.1, (Kept.refl _ w).drew.trans HC.out.2⟩
end Go.Proofs.Ythcpmcdgojgdlaa
