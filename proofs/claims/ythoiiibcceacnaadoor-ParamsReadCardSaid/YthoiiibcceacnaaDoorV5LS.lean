/- Layer 5 (params): what lies where while parameters are read. -/
import Derived.Test.YthoiiibcceacnaaDoorV5Model
namespace Go.Proofs.YthoiiibcceacnaaDoor
open Go.RowKit

def bools (l : List Bool) : List Value := l.map .bool
theorem bools_set (l : List Bool) (i : Nat) : (bools l).set i (.bool true) = bools (l.set i true) := by simp [bools, List.map_set]
theorem bools_get (l : List Bool) (i : Nat) (h : i < l.length) : (bools l)[i]? = some (.bool (l.getD i false)) := by simp [bools, h, List.getD_eq_getElem?_getD]

/-- Where all lies: the result (n), the parameters (n + 1), which came (n + 2), the reader (r), its bytes (T), the table (tb). -/
structure Lay (n r tb : Nat) (T : Nat → Prop) : Prop where
  hr : n + 3 ≤ r
  htb : r < tb
  hT : ∀ b, T b → n + 3 ≤ b ∧ b ≠ r

/-- The state, in memory. -/
structure LS (n r tb : Nat) (T : Nat → Prop) (gs : Pk → Nat) (w : World) (x : RX) : Prop where
  z : Row w n 25 (cellsP {})
  p : Row w (n + 1) 25 (cellsP x.p)
  tok : x.p.tok.length = 16
  came : Row w (n + 1 + 1) 51 (bools x.came)
  cl : x.came.length = 5
  rd : RdS w r T x.s
  tab : Row w tb 46 (tabCells gs)
  pl : Places w (fun b => r < b) gs

section
variable {n r tb : Nat} {T : Nat → Prop} {gs : Pk → Nat} {w w' : World} {x : RX}
theorem LS.keep (h : LS n r tb T gs w x) (hc : Chg none_ w w') : LS n r tb T gs w' x :=
  ⟨h.z.chg hc (fun h => h), h.p.chg hc (fun h => h), h.tok, h.came.chg hc (fun h => h), h.cl, h.rd.chg hc (fun h => h) (fun _ _ h => h), h.tab.chg hc (fun h => h), h.pl.chg hc (fun _ _ h => h)⟩
theorem LS.read (h : LS n r tb T gs w x) (L : Lay n r tb T) {s : St} (hs : RdS w' r T s) (hc : Chg (· = r) w w') : LS n r tb T gs w' { x with s := s } := by
  have h1 := L.hr
  have h2 := L.htb
  exact ⟨h.z.chg hc (by omega), h.p.chg hc (by omega), h.tok, h.came.chg hc (by omega), h.cl, hs, h.tab.chg hc (by omega), h.pl.chg hc (fun b hb e => by have e : b = r := e; omega)⟩
theorem takeP_tok (k : Pk) (v : List Nat) (p : Pm) (h : p.tok.length = 16) : (takeP k v p).1.tok.length = 16 := by
  unfold takeP
  cases k <;> simp only [setP, h]
  split
  · assumption
  · exact h
theorem LS.took (h : LS n r tb T gs w x) (L : Lay n r tb T) {p : Pm} (ht : p.tok.length = 16) (hp : Row w' (n + 1) 25 (cellsP p)) (hc : Chg (· = n + 1) w w') : LS n r tb T gs w' { x with p := p } := by
  have h1 := L.hr
  have h2 := L.htb
  exact ⟨h.z.chg hc (by omega), hp, ht, h.came.chg hc (by omega), h.cl, h.rd.chg hc (by omega) (fun b hb e => by have := (L.hT b hb).1; have e : b = n + 1 := e; omega), h.tab.chg hc (by omega), h.pl.chg hc (fun b hb e => by have e : b = n + 1 := e; omega)⟩
theorem LS.mark (h : LS n r tb T gs w x) (L : Lay n r tb T) (i : Nat) : LS n r tb T gs (w.setCell ⟨n + 1 + 1, i, none⟩ (.bool true)) { x with came := x.came.set i true } := by
  have h1 := L.hr
  have h2 := L.htb
  have hc : Chg (· = n + 1 + 1) w (w.setCell ⟨n + 1 + 1, i, none⟩ (.bool true)) := (Chg.refl (· = n + 1 + 1) w).setCell (p := ⟨n + 1 + 1, i, none⟩) (fun _ => rfl) _
  have hr := h.came.set i (.bool true)
  rw [bools_set] at hr
  exact ⟨h.z.chg hc (by omega), h.p.chg hc (by omega), h.tok, hr, by simp [h.cl], h.rd.chg hc (by omega) (fun b hb e => by have := (L.hT b hb).1; have e : b = n + 1 + 1 := e; omega), h.tab.chg hc (by omega), h.pl.chg hc (fun b hb e => by have e : b = n + 1 + 1 := e; omega)⟩
/-- How many bytes are left, as the reader's block tells. -/
def lenAt (w : World) (r : Nat) : Nat := match w.cell? ⟨r, 0, none⟩ with
  | some (.slice _ k _) => k
  | _ => 0
theorem LS.len (h : LS n r tb T gs w x) : lenAt w r = x.s.1.length := by
  obtain ⟨⟨A, cap, h1, _⟩, _⟩ := h.rd
  unfold lenAt
  rw [h1.cell 0]
  rfl
theorem LS.size (h : LS n r tb T gs w x) : tb < w.heap.size := h.tab.lt
end
/-- What is handed back. -/
def ReadPost (w : World) (x : Pm × Int) (e : Ending) (w' : World) : Prop := e = .returned (.tuple #[aggP x.1, .int .i64 x.2]) ∧ x.1.tok.length = 16 ∧ Chg none_ w w'
end Go.Proofs.YthoiiibcceacnaaDoor
