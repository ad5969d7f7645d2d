/- Pairs of contracts: what the program and the document give for the same arguments. -/
import Derived.Test.YtnjmlecbljeofaaDoorDzf
namespace Go.Proofs.YtnjmlecbljeofaaDoor
open Go.RowKit

/-- A call returns this tuple whatever the world, and makes new blocks alone. -/
def Gives (f : Nat) (args : Array Value) (v : Value) : Prop := ∀ W : World, Calls Tryd.prog f args W fun e w' => e = .returned v ∧ Below W.heap.size W w'
/-- The same, where the listed variables hold what they should. -/
def GivesE (f : Nat) (args : Array Value) (v : Value) : Prop := ∀ W : World, Env W → Calls Tryd.prog f args W fun e w' => e = .returned v ∧ Below W.heap.size W w'

theorem pack_both (k p g : Int) (hr : Rg k p g) : ∃ v E : Int, Gives 13 #[.agg #[.int .i64 k, .int .i64 p, .int .u32 g]] (.tuple #[.int .u64 v, .int .i64 E]) ∧ Gives 14 #[.agg #[.int .i64 k, .int .i64 p, .int .u32 g]] (.tuple #[.int .u64 v, .int .i64 E]) := by
  rcases ok_or (n := 256) hr with ⟨k, p, g, rfl, rfl, rfl, hO⟩ | hb
  · exact ⟨_, _, fun W => pack_ok k p g hO W, fun W => rpack_ok k p g hO W⟩
  · exact ⟨_, _, fun W => pack_bad k p g hr hb W, fun W => rpack_bad k p g hr hb W⟩
theorem check_both (k p g : Int) (hr : Rg k p g) : ∃ E : Int, Gives 17 #[.agg #[.int .i64 k, .int .i64 p, .int .u32 g]] (.int .i64 E) ∧ Gives 18 #[.agg #[.int .i64 k, .int .i64 p, .int .u32 g]] (.int .i64 E) := by
  rcases ok_or (n := 256) hr with ⟨k, p, g, rfl, rfl, rfl, hO⟩ | hb
  · exact ⟨_, fun W => dchk_ok k p g hO W, fun W => rchk_ok k p g hO W⟩
  · exact ⟨_, fun W => dchk_bad k p g hr hb W, fun W => rchk_bad k p g hr hb W⟩
theorem ocheck_both (k p g : Int) (hr : Rg k p g) : ∃ E : Int, Gives 28 #[.agg #[.int .i64 k, .int .i64 p, .int .u32 g]] (.int .i64 E) ∧ Gives 29 #[.agg #[.int .i64 k, .int .i64 p, .int .u32 g]] (.int .i64 E) := by
  rcases ok_or (n := 64) hr with ⟨k, p, g, rfl, rfl, rfl, hO⟩ | hb
  · exact ⟨_, fun W => ochk_ok k p g hO W, fun W => rochk_ok k p g hO W⟩
  · exact ⟨_, fun W => ochk_bad k p g hr hb W, fun W => rochk_bad k p g hr hb W⟩

/-- Each number is that of a descriptor, or of none. -/
theorem num_or (n : Int) (h0 : 0 ≤ n) (h1 : n ≤ 18446744073709551615) : (∃ k p g : Nat, Okn 256 k p g ∧ n / 1099511627776 = k ∧ n / 4294967296 % 256 = p ∧ n % 4294967296 = g ∧ n = num k p g) ∨ Bn n := by
  by_cases hb : Bn n
  · exact .inr hb
  · unfold Bn at hb
    exact .inl ⟨(n / 1099511627776).toNat, (n / 4294967296 % 256).toNat, (n % 4294967296).toNat, ⟨by omega, by omega, by omega, by omega, by omega⟩, by omega, by omega, by omega, by unfold num; omega⟩
theorem unpack_both (n : Int) (h0 : 0 ≤ n) (h1 : n ≤ 18446744073709551615) : ∃ a b c E : Int, Gives 15 #[.int .u64 n] (.tuple #[.agg #[.int .i64 a, .int .i64 b, .int .u32 c], .int .i64 E]) ∧ Gives 16 #[.int .u64 n] (.tuple #[.agg #[.int .i64 a, .int .i64 b, .int .u32 c], .int .i64 E]) := by
  rcases num_or n h0 h1 with ⟨k, p, g, hO, e1, e2, e3, _⟩ | hb
  · exact ⟨_, _, _, _, fun W => unpack_ok n k p g hO h0 h1 e1 e2 e3 W, fun W => runpack_ok n k p g hO h0 h1 e1 e2 e3 W⟩
  · exact ⟨_, _, _, _, fun W => unpack_bad n h0 h1 hb W, fun W => runpack_bad n h0 h1 hb W⟩
theorem text_both (k p g : Int) (hr : Rg k p g) : ∃ (s : ByteArray) (E : Int), GivesE 20 #[.agg #[.int .i64 k, .int .i64 p, .int .u32 g]] (.tuple #[.string s, .int .i64 E]) ∧ Gives 21 #[.agg #[.int .i64 k, .int .i64 p, .int .u32 g]] (.tuple #[.string s, .int .i64 E]) := by
  rcases ok_or (n := 256) hr with ⟨k, p, g, rfl, rfl, rfl, hO⟩ | hb
  · exact ⟨_, _, fun W he => dtext_ok k p g hO W he, fun W => rtext_ok k p g hO W⟩
  · exact ⟨_, _, fun W _ => dtext_bad k p g hr hb W, fun W => rtext_bad k p g hr hb W⟩
theorem otext_both (k p g : Int) (hr : Rg k p g) : ∃ (s : ByteArray) (E : Int), GivesE 24 #[.agg #[.int .i64 k, .int .i64 p, .int .u32 g]] (.tuple #[.string s, .int .i64 E]) ∧ Gives 25 #[.agg #[.int .i64 k, .int .i64 p, .int .u32 g]] (.tuple #[.string s, .int .i64 E]) := by
  rcases ok_or (n := 64) hr with ⟨k, p, g, rfl, rfl, rfl, hO⟩ | hb
  · exact ⟨_, _, fun W he => otext_ok k p g hO W he, fun W => rotext_ok k p g hO W⟩
  · exact ⟨_, _, fun W _ => otext_bad k p g hr hb W, fun W => rotext_bad k p g hr hb W⟩
theorem parse_both (s : ByteArray) (hs : s.size ≤ 100000) : ∃ a b c E : Int, GivesE 22 #[.string s] (.tuple #[.agg #[.int .i64 a, .int .i64 b, .int .u32 c], .int .i64 E]) ∧ Gives 23 #[.string s] (.tuple #[.agg #[.int .i64 a, .int .i64 b, .int .u32 c], .int .i64 E]) := by
  rcases name_or 46 256 s.data.toList with ⟨k, p, g, hO, e⟩ | hn
  · rw [str_eq e]
    exact ⟨_, _, _, _, fun W he => dparse_yes k p g hO W he, fun W => rdparse_yes k p g hO W⟩
  · exact ⟨_, _, _, _, fun W he => dparse_no s hs hn W he, fun W => rdparse_no s hs hn W⟩
theorem oparse_both (s : ByteArray) (hs : s.size ≤ 100000) : ∃ a b c E : Int, GivesE 26 #[.string s] (.tuple #[.agg #[.int .i64 a, .int .i64 b, .int .u32 c], .int .i64 E]) ∧ Gives 27 #[.string s] (.tuple #[.agg #[.int .i64 a, .int .i64 b, .int .u32 c], .int .i64 E]) := by
  rcases name_or 58 64 s.data.toList with ⟨k, p, g, hO, e⟩ | hn
  · rw [str_eq e]
    exact ⟨_, _, _, _, fun W he => oparse_yes k p g hO W he, fun W => roparse_yes k p g hO W⟩
  · exact ⟨_, _, _, _, fun W he => oparse_no s hs hn W he, fun W => roparse_no s hs hn W⟩
end Go.Proofs.YtnjmlecbljeofaaDoor
