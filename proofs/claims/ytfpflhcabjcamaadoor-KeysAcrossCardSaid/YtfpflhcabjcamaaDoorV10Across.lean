/- Layer 10 (keys): two rings that follow each other: what each has, and what one opens of the other's. -/
import Derived.Test.YtfpflhcabjcamaaDoorV10Open2
import Derived.Test.YtfpflhcabjcamaaDoorV10Un
namespace Go.Proofs.YtfpflhcabjcamaaDoor
open Go.RowKit

/-- The secret that a side puts in: 0 the client, 1 the server. -/
def secN (C S : List Nat) (n : Nat) : List Nat := if n = 0 then C else S
/-- A side's own keys behind so many updates. -/
def ownN (C S : List Nat) (n t : Nat) : Sc := uN (secN C S n) t
theorem ownN_ok (C S : List Nat) (n t : Nat) : (ownN C S n t).Ok := uN_ok _ _
theorem ownN_phase (C S : List Nat) (n t : Nat) : (ownN C S n t).phase = decide (t % 2 = 1) := uN_phase _ _
/-- The peer's keys ahead of the last update. -/
def oldN (C S : List Nat) (n : Nat) : Nat → Option Sc
  | 0 => none
  | t + 1 => some (ownN C S (1 - n) t)
def lvN (C S : List Nat) (n t : Nat) : Lv := ⟨ownN C S n t, ownN C S (1 - n) t, oldN C S n t⟩
/-- A side's ring behind so many updates. -/
def rgN (C S : List Nat) (n t : Nat) : Rg := ⟨none, some (lvN C S n t), false, true⟩
theorem rgN_turn (C S : List Nat) (n t : Nat) : ({ rgN C S n t with l1 := some (turnL (lvN C S n t)) } : Rg) = rgN C S n (t + 1) := rfl
theorem rgN_set0 (C S : List Nat) : ({ Rg.new with l1 := some ⟨makeN C false, makeN S false, none⟩, g1 := true } : Rg) = rgN C S 0 0 := rfl
theorem rgN_set1 (C S : List Nat) : ({ Rg.new with l1 := some ⟨makeN S false, makeN C false, none⟩, g1 := true } : Rg) = rgN C S 1 0 := rfl
theorem rgN_phase (C S : List Nat) (n t : Nat) : (rgN C S n t).phase = decide (t % 2 = 1) := ownN_phase C S n t
theorem phase_ne (t : Nat) : decide ((t + 1) % 2 = 1) ≠ decide (t % 2 = 1) := by
  intro e
  have := (decide_eq_decide.1 e)
  omega

/-- What the sender n seals behind t updates, the other one opens. -/
def ctN (C S : List Nat) (n t : Nat) (i : Int) (text : List Nat) : List Nat := sealK (ownN C S n t) i [] text
theorem ctN_len (C S : List Nat) (n t : Nat) (i : Int) (text : List Nat) : (ctN C S n t i text).length = text.length + 16 := sealK_len _ _ _ _
theorem ctN_lt (C S : List Nat) (n t : Nat) (i : Int) {text : List Nat} (h : ∀ x ∈ text, x < 256) : ∀ x ∈ ctN C S n t i text, x < 256 := sealK_lt (ownN_ok _ _ _ _) i h
theorem open_ctN (C S : List Nat) (n t : Nat) (i : Int) (text : List Nat) : openK (ownN C S n t) i [] (ctN C S n t i text) = (text, 0) := open_sealK _ _ _ _

section
variable (C S : List Nat) (n t : Nat) (i : Int) (text : List Nat) (g c : Nat) (T T2 : Nat → Prop) (A' : Option Addr) (w : World)
/-- Both are as far. -/
theorem across_same (hn : n ≤ 1) (h : RingAt w g T (rgN C S (1 - n) t)) (_hT : ¬ T g) (ht : View w T2 A' (text.length + 16) (u8s (ctN C S n t i text))) (hc : text.length + 16 ≤ c) (htl : text.length ≤ 60) (htb : ∀ x ∈ text, x < 256) :
    Calls Tryd.prog 13 #[.pointer (some ⟨g, 0, none⟩), .int .i64 1, .bool (decide (t % 2 = 1)), .int .i64 i, .slice none 0 0, .slice A' (text.length + 16) c] w fun e w' => ∃ v, e = .returned (.tuple #[v, .int .i64 0]) ∧ Owned w' w.heap.size v text ∧ RingAt w' g T (rgN C S (1 - n) t) ∧ Chg (· = g) w w' := by
  have hp : (lvN C S (1 - n) t).peer = ownN C S n t := by
    show ownN C S (1 - (1 - n)) t = ownN C S n t
    rw [show 1 - (1 - n) = n from by omega]
  have hl := ctN_len C S n t i text
  have := OpenS_1 g T (rgN C S (1 - n) t) (lvN C S (1 - n) t) (decide (t % 2 = 1)) i [] (ctN C S n t i text) (fun _ => True) T2 none A' 0 c w h rfl (by rw [hp, ownN_phase]) (View.none_ _ _ _) (Nat.le_refl _) (by decide) (by simp) (by rw [hl]; exact ht) (by rw [hl]; exact hc) (by omega) (ctN_lt C S n t i htb)
  rw [hp, open_ctN, hl] at this
  refine this.mono ?_
  rintro e w' ⟨v, rfl, ho, hc2⟩
  exact ⟨v, rfl, ho, h.quiet hc2, hc2.ofN⟩

/-- The sender is one update ahead, and none of its earlier keys opens what it sealed. -/
theorem across_behind (hn : n ≤ 1) (h : RingAt w g T (rgN C S (1 - n) t)) (hT : ¬ T g) (hTn : ∀ b, w.heap.size ≤ b → T b) (hK : KTab w) (hpast : ∀ m, m < t + 1 → (openK (ownN C S n m) i [] (ctN C S n (t + 1) i text)).2 ≠ 0) (ht : View w T2 A' (text.length + 16) (u8s (ctN C S n (t + 1) i text))) (hc : text.length + 16 ≤ c) (htl : text.length ≤ 60) (htb : ∀ x ∈ text, x < 256) :
    Calls Tryd.prog 13 #[.pointer (some ⟨g, 0, none⟩), .int .i64 1, .bool (decide ((t + 1) % 2 = 1)), .int .i64 i, .slice none 0 0, .slice A' (text.length + 16) c] w fun e w' => ∃ v, e = .returned (.tuple #[v, .int .i64 0]) ∧ Owned w' w.heap.size v text ∧ RingAt w' g T (rgN C S (1 - n) (t + 1)) ∧ Chg (· = g) w w' := by
  have hnn : 1 - (1 - n) = n := by omega
  have hp : (lvN C S (1 - n) t).peer = ownN C S n t := by
    show ownN C S (1 - (1 - n)) t = ownN C S n t
    rw [hnn]
  have hu : updateN (lvN C S (1 - n) t).peer = ownN C S n (t + 1) := by rw [hp]; rfl
  have hl := ctN_len C S n (t + 1) i text
  have hop := open_ctN C S n (t + 1) i text
  have hb := ctN_lt C S n (t + 1) i htb
  rw [← hl]
  refine OpenX g T (rgN C S (1 - n) t) (rgN C S (1 - n) (t + 1)) (lvN C S (1 - n) t) _ i [] (ctN C S n (t + 1) i text) text 0 none A' 0 c w h rfl (by rw [hp, ownN_phase]; exact phase_ne t) (fun w' hc' => ?_)
  have hT' : ∀ b, w'.heap.size ≤ b → T b := fun b hb => hTn b (Nat.le_trans hc'.size hb)
  cases t with
  | zero =>
    have := OO_n_ok g T (rgN C S (1 - n) 0) (lvN C S (1 - n) 0) i [] (ctN C S n (0 + 1) i text) (fun _ => True) T2 none A' 0 c w' (h.quiet hc') rfl hT hT' (hK.chg hc') rfl (by rw [hu, hop]) (View.none_ _ _ _) (Nat.le_refl _) (by decide) (by simp) (by rw [hl]; exact ht.chg hc' (fun _ _ h => h)) (by rw [hl]; exact hc) (by omega) hb
    rw [hu, hop] at this
    exact this
  | succ t =>
    have hq : (openK (ownN C S n t) i [] (ctN C S n (t + 1 + 1) i text)).2 ≠ 0 := hpast t (by omega)
    have hold : (lvN C S (1 - n) (t + 1)).old = some (ownN C S n t) := by
      show some (ownN C S (1 - (1 - n)) t) = _
      rw [hnn]
    have := OO_f_ok g T (rgN C S (1 - n) (t + 1)) (lvN C S (1 - n) (t + 1)) i [] (ctN C S n (t + 1 + 1) i text) (fun _ => True) T2 none A' 0 c w' (h.quiet hc') rfl hT hT' (hK.chg hc') (ownN C S n t) hold hq (by rw [hu, hop]) (View.none_ _ _ _) (Nat.le_refl _) (by decide) (by simp) (by rw [hl]; exact ht.chg hc' (fun _ _ h => h)) (by rw [hl]; exact hc) (by omega) hb
    rw [hu, hop] at this
    exact this
end

/-- Slices of keys are laid. -/
theorem infoS_parts : ∃ j, Tryd.prog.info? 36 = some j ∧ j.size = 61 ∧ j.zero = some (.agg zeroS.toArray) := by
  have h1 := sizeSc
  have h2 := zeroSc
  cases hq : Tryd.prog.info? 36 with
  | none => rw [hq] at h1; cases h1
  | some j =>
    rw [hq] at h1 h2
    exact ⟨j, rfl, by simpa using h1, by simpa using h2⟩
theorem zero61 : Array.map (fun x => zeroS[x % 61]?.getD default) (Array.range 61) = zeroS.toArray := by kernel_rfl
theorem zero122 : Array.map (fun x => zeroS[x % 61]?.getD default) (Array.range 122) = (zeroS ++ zeroS).toArray := by kernel_rfl
theorem zeroS_len : zeroS.length = 61 := rfl
theorem run_slice1 (M : Sc) (o : M.Ok) (w : World) : (Instr.buildSlice 38 1 #[(0, .agg (cellsS M).toArray)]).run Tryd.prog w = .ok (.slice (some ⟨w.heap.size, 0, none⟩) 1 1) (w.alloc (.cells (cellsS M).toArray 36)) := by
  obtain ⟨j, hj, hs, hz⟩ := infoS_parts
  have hf : Instr.fill (fun i => some (i * 61, 61)) zeroS.toArray [(0, .agg (cellsS M).toArray)] = some (cellsS M).toArray := by
    have := fill_part (place := fun i => some (i * 61, 61)) (k := 0) (v := .agg (cellsS M).toArray) (xs := cellsS M) (pre := []) (ys := zeroS) (post := []) (rest := []) rfl (by rw [cellsS_len o]; rfl) (by rw [cellsS_len o]; rfl)
    simp only [List.nil_append, List.append_nil] at this
    rw [this]
    rfl
  have hz2 := zero61
  simp [Instr.buildSlice, run_underlying Tryd.underlying38, sizeOf, typeInfo, zeroValue, hj, hs, hz, Value.cells, zeroS_len, hz2, hf, newRow]
theorem run_slice2 (M N : Sc) (o : M.Ok) (o' : N.Ok) (w : World) : (Instr.buildSlice 38 2 #[(0, .agg (cellsS M).toArray), (1, .agg (cellsS N).toArray)]).run Tryd.prog w = .ok (.slice (some ⟨w.heap.size, 0, none⟩) 2 2) (w.alloc (.cells (cellsS M ++ cellsS N).toArray 36)) := by
  obtain ⟨j, hj, hs, hz⟩ := infoS_parts
  have hf : Instr.fill (fun i => some (i * 61, 61)) (zeroS ++ zeroS).toArray [(0, .agg (cellsS M).toArray), (1, .agg (cellsS N).toArray)] = some (cellsS M ++ cellsS N).toArray := by
    have h1 := fill_part (place := fun i => some (i * 61, 61)) (k := 0) (v := .agg (cellsS M).toArray) (xs := cellsS M) (pre := []) (ys := zeroS) (post := zeroS) (rest := [(1, .agg (cellsS N).toArray)]) rfl (by rw [cellsS_len o]; rfl) (by rw [cellsS_len o]; rfl)
    have h2 := fill_part (place := fun i => some (i * 61, 61)) (k := 1) (v := .agg (cellsS N).toArray) (xs := cellsS N) (pre := cellsS M) (ys := zeroS) (post := []) (rest := []) rfl (by rw [cellsS_len o, cellsS_len o']) (by rw [cellsS_len o']; rfl)
    simp only [List.nil_append, List.append_nil] at h1 h2
    rw [h1, h2]
    rfl
  have hz2 := zero122
  simp [Instr.buildSlice, run_underlying Tryd.underlying38, sizeOf, typeInfo, zeroValue, hj, hs, hz, Value.cells, zeroS_len, hz2, hf, newRow]
end Go.Proofs.YtfpflhcabjcamaaDoor
