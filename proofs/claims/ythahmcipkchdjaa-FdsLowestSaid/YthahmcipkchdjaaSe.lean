/- The contracts of slots' count, Retired, Free, Len. -/
import Derived.Test.YthahmcipkchdjaaSd
namespace Go.Proofs.Ythahmcipkchdjaa
open Go.RowKit


structure CSt (w0 w : World) (B Bs Bw b : Nat) (T : Tb) (v c : Nat) : Prop where
  t : TabW w b T
  bk : Bk w B 3 #[.int .i64 c]
  bs : w.cell? ⟨Bs, 0, none⟩ = some (.pointer (some ⟨b, 0, none⟩))
  bw : w.cell? ⟨Bw, 0, none⟩ = some (.int .i64 v)
  kp : Kept (· = B) w0 w
theorem CSt.kept {w0 w w' : World} {B Bs Bw b : Nat} {T : Tb} {v c d : Nat} (h : CSt w0 w B Bs Bw b T v c) (k : Kept (· = B) w w') (hb : b ≠ B) (hs : Bs ≠ B) (hw : Bw ≠ B) (hB : Bk w' B 3 #[.int .i64 d]) : CSt w0 w' B Bs Bw b T v d :=
  ⟨h.t.kept k hb, hB, (World.cell?_of_block (a := ⟨Bs, 0, none⟩) (k.block Bs (World.block_lt_of_cell? _ _ h.bs) hs)).trans h.bs, (World.cell?_of_block (a := ⟨Bw, 0, none⟩) (k.block Bw (World.block_lt_of_cell? _ _ h.bw) hw)).trans h.bw, h.kp.trans k⟩
theorem in1_inv (y : Value) (v : Option Addr) (Bs : Nat) (q : Value) (w : World) (h : Inv w v) (hs : w.cell? ⟨Bs, 0, none⟩ = some (.pointer v)) :
    Calls Try.prog 69 #[y, .pointer (some ⟨Bs, 0, none⟩), q] w fun e w' => e = .returned (.tuple #[]) ∧ w = w' := by
  have H := Lib.hid h
  clear h
  go_enter Try.func69, Try.ntmps69
  go_wp2_with (go_at_call 51; refine (valid_no _ _ H.out).mono ?_; rintro e w' ⟨rfl, rfl⟩)
  refine bodyPost_ret (results_none rfl _ _ _) rfl ?_
  exact ⟨rfl, rfl⟩

/-- What the boxes hold that count and in have laid. -/
theorem boxes (w : World) (a : Option Addr) (v : Int) {w2 : World} (h : (w.alloc (.cells #[.pointer a] 73)).alloc (.cells #[.int .i64 v] 101) = w2) :
    w2.cell? ⟨w.heap.size, 0, none⟩ = some (.pointer a) ∧ w2.cell? ⟨w.heap.size + 1, 0, none⟩ = some (.int .i64 v) ∧ w2.heap.size = w.heap.size + 2 ∧ Below w.heap.size w w2 := by
  subst h
  have b1 := (Bk.new w 73 #[.pointer a]).same (w' := (w.alloc (.cells #[.pointer a] 73)).alloc (.cells #[.int .i64 v] 101)) (Below.heap_alloc _ _ _ (by simp))
  have b2 := Bk.new (w.alloc (.cells #[.pointer a] 73)) 101 #[.int .i64 v]
  rw [World.size_alloc] at b2
  exact ⟨b1.cell 0, b2.cell 0, by simp, ((Below.refl _ w).alloc (Nat.le_refl _) _).alloc (by simp) _⟩
end Go.Proofs.Ythahmcipkchdjaa
