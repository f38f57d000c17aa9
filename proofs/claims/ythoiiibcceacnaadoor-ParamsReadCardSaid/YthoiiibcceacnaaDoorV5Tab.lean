/- Layer 5 (params): the table of parameters: each one's place, its value, how it is taken. -/
import Derived.Test.YthoiiibcceacnaaDoorV5Pm
import Derived.Test.YthoiiibcceacnaaDoorV1Math
import Derived.Deep.RegionHeld3
import Derived.Deep.RegionWith
import Derived.StillTailTactics
namespace Go.Proofs.YthoiiibcceacnaaDoor
open Go.RowKit

/-- The parameters. -/
inductive Pk where
  | idle | token | data | stream | streams
  deriving DecidableEq
def Pk.num : Pk → Nat
  | .idle => 1
  | .token => 2
  | .data => 4
  | .stream => 5
  | .streams => 8
def Pk.all : List Pk := [.idle, .token, .data, .stream, .streams]

/-- A function as a value; one over a box. -/
def fnv (n : Nat) : Value := .func (.func n) #[] #[]
def clo (n g : Nat) : Value := .func (.func n) #[] #[.pointer (some ⟨g, 0, none⟩)]
def placeP : Pk → Nat
  | .idle => 35
  | .data => 38
  | .stream => 39
  | _ => 40
def ixP : Pk → Nat
  | .idle => 0
  | .data => 1
  | .stream => 2
  | _ => 3
def getP : Pk → Pm → Nat
  | .idle, p => p.idle
  | .data, p => p.data
  | .stream, p => p.stream
  | _, p => p.streams
def setP : Pk → Nat → Pm → Pm
  | .idle, n, p => { p with idle := n }
  | .data, n, p => { p with data := n }
  | .stream, n, p => { p with stream := n }
  | _, n, p => { p with streams := n }
theorem cells_getP (k : Pk) (p : Pm) : (cellsP p)[ixP k]? = some (.int .u64 (getP k p : Nat)) := by cases k <;> rfl
theorem cells_setP (k : Pk) (n : Nat) (p : Pm) : (cellsP p).set (ixP k) (.int .u64 n) = cellsP (setP k n p) := by cases k <;> rfl

theorem place_any (k : Pk) (g : Nat) (w : World) : Calls Tryd.prog (placeP k) #[.pointer (some ⟨g, 0, none⟩)] w fun e w' => e = .returned (.pointer (some ⟨g, ixP k, none⟩)) ∧ w = w' := by
  cases k
  · go_enter Tryd.func35, Tryd.ntmps35
    go_wp2
    go_ret
    exact ⟨rfl, rfl⟩
  · go_enter Tryd.func40, Tryd.ntmps40
    go_wp2
    go_ret
    exact ⟨rfl, rfl⟩
  · go_enter Tryd.func38, Tryd.ntmps38
    go_wp2
    go_ret
    exact ⟨rfl, rfl⟩
  · go_enter Tryd.func39, Tryd.ntmps39
    go_wp2
    go_ret
    exact ⟨rfl, rfl⟩
  · go_enter Tryd.func40, Tryd.ntmps40
    go_wp2
    go_ret
    exact ⟨rfl, rfl⟩
theorem place_call (k : Pk) : ∀ args w, (callFunc (placeP k) args).run Tryd.prog w = .ok (.enter (placeP k) args) w := by
  intro args w
  cases k <;> first | exact Tryd.call35 args w | exact Tryd.call38 args w | exact Tryd.call39 args w | exact Tryd.call40 args w

/-- An integer's bytes. -/
def encI (n : Nat) : List Nat := wideB n (szN n)
/-- A parameter's value's bytes. -/
def valP (k : Pk) (p : Pm) : List Nat :=
  match k with
  | .token => if p.has then p.tok else []
  | k => if getP k p = 0 then [] else encI (getP k p)

theorem NewBytes.new {w w' : World} {v : Value} {l : List Nat} (h : NewBytes w w' v l) : BytesNew w l (.returned v) w' := by
  obtain ⟨A, cap, rfl, hv⟩ := h.view
  exact ⟨A, cap, rfl, hv, h.1⟩
theorem BytesNew.before {w w1 w' : World} {l : List Nat} {e : Ending} (h : BytesNew w1 l e w') (hc : Chg none_ w w1) : BytesNew w l e w' := by
  obtain ⟨A, cap, h1, h2, h3⟩ := h
  exact ⟨A, cap, h1, h2.mono (fun _ _ hb => Nat.le_trans hc.size hb), hc.trans h3⟩
theorem BytesNew.nil {w w1 : World} (hc : Chg none_ w w1) : BytesNew w [] (.returned (.slice none 0 0)) w1 := ⟨none, 0, rfl, View.none_ _ _ _, hc⟩

section
variable (p : Pm) (w : World)
set_option maxRecDepth 100000 in
theorem value_any (k : Pk) (h : Nat) (hT : Tab w) (hr : Row w h 68 [fnv (placeP k)]) :
    Calls Tryd.prog 49 #[aggP p, .pointer (some ⟨h, 0, none⟩)] w (BytesNew w (if getP k p = 0 then [] else encI (getP k p))) := by
  unfold aggP
  have ha := (Chg.refl none_ w).alloc (.cells (cellsP p).toArray 25)
  have hc0 := (hr.chg ha (fun h => h)).cell 0
  simp [fnv] at hc0
  have hcx := ((Row.new w 25 (cellsP p)).cell (ixP k)).trans (cells_getP k p)
  have HP := Lib.hid (place_any k w.heap.size (w.alloc (.cells (cellsP p).toArray 25)))
  have HPUT := Lib.hid (put_any (getP k p) _ (hT.chg ha (fun h => h)))
  have heg := place_call k
  have HA := Lib.hid ha
  clear hr ha hT
  generalize placeP k = n at hc0 HP heg
  generalize ixP k = ix at HP hcx
  generalize cellsP p = cs at *
  generalize getP k p = x at *
  have hc0' : h < w.heap.size → w.cell? ⟨h, 0, none⟩ = some (.func (.func n) #[] #[]) := fun hl => by
    have := HA.out.cell 0 hl (fun h => h)
    rw [← this]; exact hc0
  by_cases hx : x = 0
  · rw [if_pos hx]
    have hx' : ((x : Int) == 0) = true := by simp [hx]
    clear hx
    go_enter Tryd.func49, Tryd.ntmps49
    go_wp2_with fail
    refine HP.out.mono ?_
    rintro e w' ⟨rfl, rfl⟩
    go_wp2_with fail
    go_ret
    exact BytesNew.nil HA.out
  · rw [if_neg hx]
    have hx' : ((x : Int) == 0) = false := by simp [hx]
    clear hx
    go_enter Tryd.func49, Tryd.ntmps49
    go_wp2_with fail
    refine HP.out.mono ?_
    rintro e w' ⟨rfl, rfl⟩
    go_wp2_with fail
    refine HPUT.out.mono ?_
    rintro e w2 ⟨v, rfl, hv⟩
    go_wp2
    go_ret
    exact (hv.new).before HA.out

set_option maxRecDepth 100000 in
theorem valueT_any (ht : p.tok.length = 16) : Calls Tryd.prog 36 #[aggP p] w (BytesNew w (if p.has then p.tok else [])) := by
  unfold aggP
  have HA := Lib.hid ((Chg.refl none_ w).alloc (.cells (cellsP p).toArray 25))
  have HR := Lib.hid (Row.new w 25 (cellsP p))
  have h4 := cP_4 p
  have HRT := Lib.hid (tokP_range HR.out)
  have HT := Lib.hid ht
  clear ht
  generalize cellsP p = cs at *
  cases hh : p.has
  all_goals
    rw [hh] at h4
    have HH := Lib.hid hh
    clear hh
    go_enter Tryd.func36, Tryd.ntmps36
    go_wp2
    go_ret
  · exact BytesNew.nil HA.out
  · refine ⟨some ⟨w.heap.size, 5, none⟩, 16, ?_, ⟨?_, fun _ => ⟨w.heap.size, 5, rfl, ?_, Nat.le_refl _, fun j hj => ?_⟩⟩, HA.out⟩
    · rw [HT.out]; rfl
    · simp
    · simp
    · have h2 : j < (u8s p.tok).length := by simpa using hj
      rw [List.getElem?_eq_getElem h2]
      exact HRT.out j _ (List.getElem?_eq_getElem h2)
end
end Go.Proofs.YthoiiibcceacnaaDoor
