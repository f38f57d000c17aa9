/- Layer 4 (header), plain: what is put is read again. -/
import Derived.Test.YtfecmloaopbogaaDoorV4Put
import Derived.Test.YtfecmloaopbogaaDoorV4Parse
import Derived.Test.YtfecmloaopbogaaDoorV4Peek
namespace Go.Proofs.YtfecmloaopbogaaDoor
open Go.RowKit

theorem rdInt_en (n : Nat) (hn : n < 4611686018427387904) (l : List Nat) : rdInt (enI n ++ l, 0) = (n, (l, 0)) := by
  obtain ⟨h1, h2, h3⟩ := wideB_put n hn
  obtain ⟨f, r, e, _, _, h6, h7⟩ := back_math n (szN n) h2 h3 l
  unfold enI
  rw [h1, e]
  unfold rdInt
  simp only [ne_eq, not_true_eq_false, if_false]
  rw [if_pos (by rw [h6]; simp)]
  rw [h6, List.take_left, List.drop_left, h7]
theorem rdBytes_ap (n : Nat) (l m : List Nat) (h : l.length = n) : rdBytes n (l ++ m, 0) = (l, (m, 0)) := by
  subst h
  unfold rdBytes
  simp only [ne_eq, not_true_eq_false, if_false]
  rw [if_pos (by simp), List.take_left, List.drop_left]
theorem rdByte_cons (f : Nat) (l : List Nat) : rdByte (f :: l, 0) = (f, (l, 0)) := by simp [rdByte]

theorem ver_back (n : Nat) (h : n < 4294967296) : foldB 0 (arr n 4 4) = n := by
  simp [foldB, arr, List.range_succ]
  omega

def firstN (long phase : Bool) (kind : Int) (n : Nat) : Nat := 64 + (n - 1) + (if long then 128 + 16 * kind.toNat else 0) + (if phase then 4 else 0)
theorem firstN_may (long phase : Bool) (kind : Int) (n : Nat) (c1 : 1 ≤ n) (c4 : n ≤ 4) (k : kind = 0 ∨ kind = 2) (kl : long = false → kind = 0) (kp : long = true → phase = false) :
    mayM (firstN long phase kind n) = true ∧ firstN long phase kind n % 4 + 1 = n ∧ firstN long phase kind n < 256 ∧ firstN long phase kind n / 64 % 2 = 1 ∧ (firstN long phase kind n / 128 % 2 = 1 ↔ long = true) ∧ partsM (firstN long phase kind n) = { long := long, phase := phase, kind := kind } := by
  have hc : n = 1 ∨ n = 2 ∨ n = 3 ∨ n = 4 := by omega
  cases long
  · obtain rfl := kl rfl
    clear kl kp k c1 c4
    rcases hc with rfl | rfl | rfl | rfl <;> cases phase <;> decide
  · obtain rfl := kp rfl
    clear kl kp c1 c4
    rcases k with rfl | rfl <;> rcases hc with rfl | rfl | rfl | rfl <;> decide

section
variable {h : Hd}
theorem first_may (F : RightF h) : mayM (firstM h) = true ∧ firstM h % 4 + 1 = h.cut.length ∧ firstM h < 256 ∧ firstM h / 64 % 2 = 1 ∧ (firstM h / 128 % 2 = 1 ↔ h.long = true) ∧ partsM (firstM h) = { long := h.long, phase := h.phase, kind := h.kind } :=
  firstN_may h.long h.phase h.kind h.cut.length F.c1 F.c4 F.k (fun e => (F.kl e).1) F.kp

/-- A long header that was put is parsed again, whatever stands behind, if there is enough of it. -/
theorem who_back (h0 : Hd) (ho : h.Ok) (l : List Nat) : whoM h0 (arr h.version 4 4 ++ (h.dst.length :: (h.dst ++ l)), 0) = ({ h0 with version := h.version, dst := h.dst }, (l, 0)) := by
  unfold whoM
  simp only
  rw [rdBytes_ap 4 _ _ (arr_len _ _ _)]
  simp only
  rw [rdByte_cons]
  simp only
  rw [rdBytes_ap _ _ _ rfl, ver_back _ ho.v1]
theorem back_long (hr : rightH h = true) (ho : h.Ok) (hl : h.long = true) (more : List Nat) (hm : h.rest.toNat ≤ more.length) :
    parseM (bytesH h ++ more) = (h, ((bytesH h).length : Int), 0) := by
  have F := rightF hr
  obtain ⟨f1, f2, f3, f4, f5, f6⟩ := first_may F
  have e1 : restM (firstM h) ((arr h.version 4 4 ++ (h.dst.length :: (h.dst ++ (h.src.length :: (h.src ++ ((if h.kind = 0 then enI h.token.length ++ h.token else []) ++ (enI (h.cut.length + h.rest.toNat) ++ (h.cut ++ more)))))))), 0) = (h, (more, 0)) := by
    rw [restM_long (by rw [f6]; exact hl), f2, f6]
    unfold longM
    simp only
    rw [who_back _ ho]
    simp only
    rw [rdByte_cons]
    simp only
    rw [rdBytes_ap _ _ _ rfl]
    simp only
    have et : tokM { long := h.long, phase := h.phase, kind := h.kind } ((if h.kind = 0 then enI h.token.length ++ h.token else []) ++ (enI (h.cut.length + h.rest.toNat) ++ (h.cut ++ more)), 0) = (h.token, (enI (h.cut.length + h.rest.toNat) ++ (h.cut ++ more), 0)) := by
      unfold tokM
      simp only
      by_cases hk : h.kind = 0
      · rw [if_pos hk, if_pos hk, List.append_assoc, rdInt_en _ (by have := F.t; omega)]
        simp only
        rw [rdBytes_ap _ _ _ rfl]
      · rw [if_neg hk, if_neg hk, F.kt hk, List.nil_append]
    rw [et]
    simp only
    rw [rdInt_en _ (by have := F.c4; have := F.r1; omega)]
    simp only
    rw [if_neg (by omega), if_neg (by simp; omega), rdBytes_ap _ _ _ rfl]
    have := F.r0
    have er : ((h.cut.length + h.rest.toNat - h.cut.length : Nat) : Int) = h.rest := by omega
    rw [er]
  have eb : bytesH h = firstM h :: (arr h.version 4 4 ++ (h.dst.length :: (h.dst ++ (h.src.length :: (h.src ++ ((if h.kind = 0 then enI h.token.length ++ h.token else []) ++ (enI (h.cut.length + h.rest.toNat) ++ h.cut))))))) := by
    unfold bytesH aheadH
    rw [if_pos hl]
    by_cases hk : h.kind = 0
    · rw [if_pos hk, if_pos hk]; simp
    · rw [if_neg hk, if_neg hk]; simp
  have ea : bytesH h ++ more = firstM h :: (arr h.version 4 4 ++ (h.dst.length :: (h.dst ++ (h.src.length :: (h.src ++ ((if h.kind = 0 then enI h.token.length ++ h.token else []) ++ (enI (h.cut.length + h.rest.toNat) ++ (h.cut ++ more)))))))) := by
    rw [eb]; simp
  have hlen : ((bytesH h ++ more).length : Int) - (more.length : Int) = ((bytesH h).length : Int) := by rw [List.length_append]; omega
  rw [← hlen]
  rw [ea]
  rw [parseM_ok (rdByte_cons _ _) f1 e1 rfl hr]

/-- A short one. -/
theorem back_short (hr : rightH h = true) (hl : h.long = false) (more : List Nat) (hm : (more.length : Int) = h.rest) :
    parseM (bytesH h ++ more) = (h, ((bytesH h).length : Int), 0) := by
  have F := rightF hr
  obtain ⟨f1, f2, f3, f4, f5, f6⟩ := first_may F
  have e1 : restM (firstM h) (h.dst ++ (h.cut ++ more), 0) = (h, (more, 0)) := by
    rw [restM_short (by rw [f6]; exact hl), f2, f6]
    unfold shortM
    simp only
    rw [rdBytes_ap 8 _ _ (F.kl hl).2.2.2.2]
    simp only
    rw [rdBytes_ap _ _ _ rfl]
    simp only
    rw [hm]
    obtain ⟨g1, g2, g3, g4, _⟩ := F.kl hl
    obtain ⟨long, phase, kind, version, dst, src, token, cut, rest⟩ := h
    simp only at g1 g2 g3 g4
    subst g1; subst g2; subst g3; subst g4
    rfl
  have ea : bytesH h ++ more = firstM h :: (h.dst ++ (h.cut ++ more)) := by unfold bytesH; rw [if_neg (by simp [hl])]; simp
  have hlen : ((bytesH h ++ more).length : Int) - (more.length : Int) = ((bytesH h).length : Int) := by rw [List.length_append]; omega
  rw [← hlen]
  rw [ea]
  rw [parseM_ok (rdByte_cons _ _) f1 e1 rfl hr]

/-- And its Dst peeked. -/
theorem peek_back (hr : rightH h = true) (ho : h.Ok) (more : List Nat) : peekM (bytesH h ++ more) = (h.dst, h.long, true) := by
  have F := rightF hr
  obtain ⟨f1, f2, f3, f4, f5, f6⟩ := first_may F
  cases hl : h.long with
  | true =>
    have ea : bytesH h ++ more = firstM h :: (arr h.version 4 4 ++ (h.dst.length :: (h.dst ++ ((h.src.length :: (h.src ++ ((if h.kind = 0 then enI h.token.length ++ h.token else []) ++ (enI (h.cut.length + h.rest.toNat) ++ (h.cut ++ more))))))))) := by
      unfold bytesH aheadH
      rw [if_pos hl]
      by_cases hk : h.kind = 0
      · rw [if_pos hk, if_pos hk]; simp
      · rw [if_neg hk, if_neg hk]; simp
    rw [ea]
    unfold peekM
    simp only [rdByte_cons]
    rw [if_neg (by omega), if_pos (f5.2 hl), who_back _ ho]
    unfold peekOut
    rw [if_neg (by have := F.d; simp; omega)]
  | false =>
    have ea : bytesH h ++ more = firstM h :: (h.dst ++ (h.cut ++ more)) := by unfold bytesH; rw [if_neg (by simp [hl])]; simp
    rw [ea]
    unfold peekM
    simp only [rdByte_cons]
    rw [if_neg (by omega), if_neg (by rw [f5, hl]; simp), rdBytes_ap 8 _ _ (F.kl hl).2.2.2.2]
    unfold peekOut
    rw [if_neg (by have := F.d; simp; omega)]
end

/-- Headers that have the same bytes are the same. -/
theorem apart_h {h g : Hd} (hr : rightH h = true) (gr : rightH g = true) (ho : h.Ok) (og : g.Ok) (h0 : h.long = false → h.rest = 0) (g0 : g.long = false → g.rest = 0) (e : bytesH h = bytesH g) : h = g := by
  have F := rightF hr
  have G := rightF gr
  have p1 := peek_back hr ho []
  have p2 := peek_back gr og []
  rw [e, p2] at p1
  have hlg : g.long = h.long := by injection p1 with _ p; injection p
  cases hl : h.long with
  | true =>
    have q1 := back_long hr ho hl (List.replicate 1200 0) (by have := F.r0; have := F.r1; rw [List.length_replicate]; omega)
    have q2 := back_long gr og (hlg.trans hl) (List.replicate 1200 0) (by have := G.r0; have := G.r1; rw [List.length_replicate]; omega)
    rw [e, q2] at q1
    injection q1 with q _
    exact q.symm
  | false =>
    have q1 := back_short hr hl [] (by rw [h0 hl]; rfl)
    have q2 := back_short gr (hlg.trans hl) [] (by rw [g0 (hlg.trans hl)]; rfl)
    rw [e, q2] at q1
    injection q1 with q _
    exact q.symm
end Go.Proofs.YtfecmloaopbogaaDoor
