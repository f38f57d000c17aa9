/- Layer 5 (params): which parameters are the same, by '=='. -/
import Derived.Test.YthoiiibcceacnaaDoorV5Pm
import Derived.DeepKeys
namespace Go.Proofs.YthoiiibcceacnaaDoor
open Go.RowKit

theorem wf_u64 (n : Nat) (h : n < 18446744073709551616) : (Lit.int .u64 (n : Int)).wf = true := by
  show (decide ((0 : Int) ≤ n) && decide ((n : Int) ≤ 18446744073709551615)) = true
  simp only [Bool.and_eq_true, decide_eq_true_eq]
  omega
theorem wf_u8 (n : Nat) (h : n < 256) : (Lit.int .u8 (n : Int)).wf = true := by
  show (decide ((0 : Int) ≤ n) && decide ((n : Int) ≤ 255)) = true
  simp only [Bool.and_eq_true, decide_eq_true_eq]
  omega
theorem cells22 : Tryd.prog.cellsOf 22 = 1 := by kernel_rfl
theorem cellsB : Tryd.prog.cellsOf 4 = 1 := by kernel_rfl
theorem cellsU8 : Tryd.prog.cellsOf 5 = 1 := by kernel_rfl
theorem cellsT : Tryd.prog.cellsOf 23 = 16 := by kernel_rfl
theorem cellsPm : Tryd.prog.cellsOf 25 = 21 := by kernel_rfl
theorem keyPm : Tryd.prog.keyTypeAt 4 25 = true := by kernel_rfl

def litsT (l : List Nat) : List Lit := l.map fun (x : Nat) => Lit.int .u8 (x : Int)
def litsP (p : Pm) : List Lit := [.int .u64 p.idle, .int .u64 p.data, .int .u64 p.stream, .int .u64 p.streams, .bool p.has] ++ litsT p.tok
theorem litsP_inj (p q : Pm) : litsP p = litsP q ↔ p = q := by
  constructor
  · intro h
    simp only [litsP, List.cons_append, List.nil_append, List.cons.injEq, Lit.int.injEq, Lit.bool.injEq, true_and] at h
    obtain ⟨h1, h2, h3, h4, h5, h6⟩ := h
    have h7 : p.tok = q.tok := by
      have : ∀ a b : Nat, (Lit.int .u8 (a : Int)) = Lit.int .u8 (b : Int) → a = b := fun a b h => by injection h with _ h; omega
      exact List.map_inj_right (fun a b => this a b) |>.1 h6
    cases p; cases q
    simp at *
    exact ⟨by omega, by omega, by omega, by omega, h5, h7⟩
  · intro h; rw [h]

theorem list16 : ∀ {l : List Nat}, l.length = 16 → ∃ a b c d e f g h i j k m n o p q, l = [a, b, c, d, e, f, g, h, i, j, k, m, n, o, p, q]
  | [a, b, c, d, e, f, g, h, i, j, k, m, n, o, p, q], _ => ⟨a, b, c, d, e, f, g, h, i, j, k, m, n, o, p, q, rfl⟩

theorem keyU8 (n : Nat) (h : n < 256) : Tryd.prog.keyLits 2 5 [.int .u8 (n : Int)] = some [.int .u8 (n : Int)] := by
  simp [Program.keyLits, Tryd.underlying5, wf_u8 n h]
theorem keyU64 (n : Nat) (h : n < 18446744073709551616) : Tryd.prog.keyLits 3 22 [.int .u64 (n : Int)] = some [.int .u64 (n : Int)] := by
  simp [Program.keyLits, Tryd.underlying22, wf_u64 n h]
theorem keyB (b : Bool) : Tryd.prog.keyLits 3 4 [.bool b] = some [.bool b] := by
  simp [Program.keyLits, Tryd.underlying4]
theorem keyTok (l : List Nat) (hl : l.length = 16) (hm : ∀ x ∈ l, x < 256) : Tryd.prog.keyLits 3 23 (u8s l) = some (litsT l) := by
  obtain ⟨a, b, c, d, e, f, g, h, i, j, k, m, n, o, p, q, rfl⟩ := list16 hl
  have q := fun x hx => keyU8 x (hm x hx)
  simp only [List.mem_cons, forall_eq_or_imp, List.not_mem_nil, false_implies, implies_true, and_true] at q
  unfold Program.keyLits
  simp only [Tryd.underlying23]
  rw [if_pos (by rw [cellsT]; rfl)]
  simp only [cellsU8, show List.range 16 = [0, 1, 2, 3, 4, 5, 6, 7, 8, 9, 10, 11, 12, 13, 14, 15] from rfl, u8s, List.map_cons, List.map_nil, Nat.mul_one]
  simp [q, litsT]
theorem keyPm_lits (p : Pm) (o : p.Ok) : Tryd.prog.keyLits 4 25 (cellsP p) = some (litsP p) := by
  have h1 := keyU64 p.idle o.a
  have h2 := keyU64 p.data o.b
  have h3 := keyU64 p.stream o.c
  have h4 := keyU64 p.streams o.d
  have h5 := keyB p.has
  have h6 := keyTok p.tok o.tok o.mem
  have hl : (u8s p.tok).length = 16 := by rw [u8s_length]; exact o.tok
  unfold Program.keyLits
  simp only [Tryd.underlying25]
  rw [if_pos ⟨by rw [cellsPm]; exact cP_len p o.tok, by decide +kernel⟩]
  unfold cellsP
  simp [h1, h2, h3, h4, h5, cells22, cellsB, cellsT, List.take_of_length_le (Nat.le_of_eq hl), h6, litsP]

theorem pm_eql (p q : Pm) (o : p.Ok) (o' : q.Ok) (w : World) : (Op.equalIn 10000 25 (aggP p) (aggP q)).run Tryd.prog w = .ok (decide (p = q)) w := by
  have hf : ∀ p : Pm, p.tok.length = 16 → (aggP p).formed Tryd.prog 25 = true := fun p h => by
    simp only [aggP, Value.formed]
    simp [Tryd.underlying25, cellsPm, cP_len p h]
  obtain ⟨r, h1, h2⟩ := run_equalIn_deep (P := Tryd.prog) 9996 4 25 keyPm w 4 4 (aggP p) (aggP q) (litsP p) (litsP q) (hf p o.tok) (hf q o'.tok) (keyPm_lits p o) (keyPm_lits q o')
  rw [show (10000 : Nat) = 9996 + 4 from rfl, h1]
  congr 1
  rw [Bool.eq_iff_iff, h2, litsP_inj]
  simp
end Go.Proofs.YthoiiibcceacnaaDoor
