/- Layer 4 (header): Version and Dst are read. -/
import Derived.Test.YtfecmloaopbogaaDoorV3RdB
import Derived.Test.YtfecmloaopbogaaDoorV4Read
namespace Go.Proofs.YtfecmloaopbogaaDoor
open Go.RowKit

/-- What readWhose reads. -/
def whoM (h : Hd) (s : St) : Hd × St :=
  let v := rdBytes 4 s
  let n := rdByte v.2
  let d := rdBytes n.1 n.2
  ({ h with version := foldB 0 v.1, dst := d.1 }, d.2)

/-- The reader and the header that is read into it. -/
structure Two_ (w : World) (g gh : Nat) (T : Nat → Prop) (s : St) (h : Hd) (v : Four) : Prop where
  rd : RdS w g T s
  row : Row w gh 25 (cellsH h v)
  ne : g ≠ gh
  Tg : ¬ T g
  Th : ¬ T gh
  sl : HdD w (fun b => b ≠ g ∧ gh < b) h v

theorem Two_.chg {w w' : World} {g gh : Nat} {T : Nat → Prop} {s : St} {h : Hd} {v : Four} (x : Two_ w g gh T s h v) (hc : Chg none_ w w') : Two_ w' g gh T s h v :=
  ⟨x.rd.chg hc (fun h => h) (fun _ _ h => h), x.row.chg hc (fun h => h), x.ne, x.Tg, x.Th, x.sl.chg hc (fun _ _ h => h)⟩

set_option maxRecDepth 100000 in
theorem readWhose_at (w : World) (g gh : Nat) (T : Nat → Prop) (s : St) (h : Hd) (v : Four) (x : Two_ w g gh T s h v) (vs d : List Nat × St) (ver n1 : Nat) (n2 : St) (e1 : rdBytes 4 s = vs) (e0 : foldB 0 vs.1 = ver) (e2 : rdByte vs.2 = (n1, n2)) (e3 : rdBytes n1 n2 = d) :
    Calls Tryd.prog 45 #[.pointer (some ⟨g, 0, none⟩), .pointer (some ⟨gh, 0, none⟩)] w fun e w' =>
      e = .returned (.tuple #[]) ∧ (∃ A c, Two_ w' g gh T d.2 { h with version := ver, dst := d.1 } { v with d := .slice A d.1.length c }) ∧ Chg (fun b => b = g ∨ b = gh) w w' := by
  have HN := Lib.hid x.ne
  have HTg := Lib.hid x.Tg
  have HTh := Lib.hid x.Th
  have HSL := Lib.hid x.sl
  have HRow := Lib.hid x.row
  have HV := Lib.hid (readVersion_any w g T s x.rd x.Tg)
  rw [e1] at HV
  rw [e0] at HV
  have hdl := rdBytes_len n1 n2
  rw [e3] at hdl
  have E2 := Lib.hid e2
  have E3 := Lib.hid e3
  clear x e0 e1 e2 e3
  go_enter Tryd.func45, Tryd.ntmps45
  go_wp2_with fail
  refine HV.out.mono ?_
  rintro e w1 ⟨rfl, hr1, hc1⟩
  have HROW1 := Lib.hid (HRow.out.chg hc1 (fun e => HN.out e.symm))
  have hc3 := HROW1.out.cell 3
  have hf3 := HROW1.out.frozen 3
  have HSL1 := Lib.hid (HSL.out.chg hc1 (fun b hb e => hb.1 e))
  have HC1 := Lib.hid hc1
  have HR1 := Lib.hid hr1
  rw [cH_3] at hc3
  clear hc1 hr1
  go_wp2_with fail
  have HROW2 := Lib.hid (HROW1.out.set 3 (.int .u32 (ver : Nat)))
  have HRD2 := Lib.hid (HR1.out.setCell ⟨gh, 3, none⟩ HN.out HTh.out (.int .u32 (ver : Nat)))
  have HC2 := Lib.hid ((HC1.out.mono (S' := fun b => b = g ∨ b = gh) (fun _ _ h => .inl h)).setCell (p := ⟨gh, 3, none⟩) (fun _ => .inr rfl) (.int .u32 (ver : Nat)))
  have HSL2 := Lib.hid (HSL1.out.chg ((Chg.refl (· = gh) w1).setCell (p := ⟨gh, 3, none⟩) (fun _ => rfl) (.int .u32 (ver : Nat))) (fun b hb e => by omega))
  clear hc3 hf3 HR1 HC1 HROW1 HSL1
  generalize w1.setCell ⟨gh, 3, none⟩ (.int .u32 (ver : Nat)) = w2 at *
  refine (byte_any w2 g T vs.2 HRD2.out HTg.out).mono ?_
  have hn256 := (rdByte_mem vs.2 HRD2.out.2).1
  rw [E2.out] at hn256 ⊢
  simp only at hn256
  rintro e w3 ⟨rfl, hr3, hc3⟩
  simp only at hr3
  have hw : IntKind.u64.wrap ((n1 : Nat) : Int) = (n1 : Int) := IntWalk.u64_in _ (by omega)
  have HB := Lib.hid (bytes_any w3 g T n2 n1 hr3 HTg.out)
  unfold BytesPost at HB
  rw [E3.out] at HB
  have HG3 := Lib.hid hr3.lt
  have HROW3 := Lib.hid (HROW2.out.chg hc3 (fun e => HN.out e.symm))
  have HC3 := Lib.hid (HC2.out.andThen hc3 (fun _ _ h => .inl h))
  have HSL3 := Lib.hid (HSL2.out.chg hc3 (fun b hb e => hb.1 e))
  clear hr3 hc3 HROW2 HC2 HSL2 HRD2
  go_wp2_with fail
  refine HB.out.mono ?_
  rintro e w4 ⟨A, c, rfl, hv4, hr4, hc4⟩
  have HROW4 := Lib.hid (HROW3.out.chg hc4 (fun e => HN.out e.symm))
  have hk4 := HROW4.out.cell 4
  have hf4 := HROW4.out.frozen 4
  rw [show ((cellsH h v).set 3 (.int .u32 (ver : Nat)))[4]? = some v.d from rfl] at hk4
  have HC4 := Lib.hid (HC3.out.andThen hc4 (fun _ _ h => .inl h))
  have HSL4 := Lib.hid (HSL3.out.chg hc4 (fun b hb e => hb.1 e))
  have HV4 := Lib.hid hv4
  have HR4 := Lib.hid hr4
  clear hv4 hr4 hc4 HB
  go_wp2_with fail
  go_end0
  have hge : ∀ b, w3.heap.size ≤ b → b ≠ g ∧ gh < b := fun b hb => by have := HG3.out; have := HROW3.out.lt; omega
  have hcS := (Chg.refl (· = gh) w4).setCell (p := ⟨gh, 4, none⟩) (fun _ => rfl) (.slice A d.1.length c)
  refine ⟨rfl, ⟨A, c, ⟨HR4.out.setCell ⟨gh, 4, none⟩ HN.out HTh.out _, HROW4.out.set 4 _, HN.out, HTg.out, HTh.out, ?_⟩⟩, HC4.out.setCell (p := ⟨gh, 4, none⟩) (fun _ => .inr rfl) _⟩
  have hsl := HSL4.out.chg hcS (fun b hb e => by omega)
  have hsd : Sl w4 (fun b => b ≠ g ∧ gh < b) (.slice A d.1.length c) d.1 := ⟨A, c, rfl, by omega, HV4.out.mono (fun b _ hb => hge b hb)⟩
  exact ⟨hsd.chg hcS (fun b hb e => by omega), hsl.s, hsl.t, hsl.c⟩

theorem readWhose_any (w : World) (g gh : Nat) (T : Nat → Prop) (s : St) (h : Hd) (v : Four) (x : Two_ w g gh T s h v) :
    Calls Tryd.prog 45 #[.pointer (some ⟨g, 0, none⟩), .pointer (some ⟨gh, 0, none⟩)] w fun e w' =>
      e = .returned (.tuple #[]) ∧ (∃ A c, Two_ w' g gh T (whoM h s).2 (whoM h s).1 { v with d := .slice A (whoM h s).1.dst.length c }) ∧ Chg (fun b => b = g ∨ b = gh) w w' :=
  readWhose_at w g gh T s h v x (rdBytes 4 s) (rdBytes (rdByte (rdBytes 4 s).2).1 (rdByte (rdBytes 4 s).2).2) _ (rdByte (rdBytes 4 s).2).1 (rdByte (rdBytes 4 s).2).2 rfl rfl rfl rfl
end Go.Proofs.YtfecmloaopbogaaDoor
