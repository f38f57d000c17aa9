/- Layer 16 (reasm): Read. -/
import Derived.Test.YtbmhoijdbhokaaaV16ReadL
namespace Go.Proofs.Ytbmhoijdbhokaaa
open Go.RowKit Go.Shelf
attribute [local go_sem] Oper.semAt_some

set_option maxRecDepth 100000 in
set_option maxHeartbeats 4000000 in
theorem read_some (g m n k : Nat) (s : Rb) (hs : s.Ok) (hn : 1 ≤ n) (hk : k = min n (s.gap - s.rd)) (w : World) (hr : BufAt w g m s) :
    Calls Try.prog 11 #[.pointer (some ⟨g, 0, none⟩), .int .i64 (n : Int)] w fun e w' => ∃ v, e = .returned v ∧ Owned w' w.heap.size v (bytesB s.B s.rd k) ∧ BufAt w' g m (readS s k) ∧ Chg (of2 g m) w w' := by
  have hgl := hr.row.lt
  have hml := hr.map.lt
  have hco := hs.core
  have hfar := hco.far
  have hgle := hco.gap_le
  have hrg := hco.rg
  have hwin := hco.win
  have h0 : Hid (∀ W, Chg none_ w W → BufAt W g m s) := Lib.hid (fun W hc => hr.chg hc (fun h => h) (fun h => h))
  have n1 : (1 : Int) ≤ (n : Int) := by omega
  have HMN : Hid (((n : Int) ≤ ((s.gap - s.rd : Nat) : Int) ∧ (k : Int) = (n : Int)) ∨ (((s.gap - s.rd : Nat) : Int) < (n : Int) ∧ (k : Int) = ((s.gap - s.rd : Nat) : Int))) := Lib.hid (by omega)
  have HKM := Lib.hid hk
  have hk6 : k ≤ 1000000 := by omega
  clear hk
  clear hr
  obtain ⟨W0, hW0⟩ : ∃ W0, W0 = (w.alloc (.cells #[.pointer (some ⟨g, 0, none⟩)] 25)).alloc (.cells #[.int .i64 (n : Int)] 3) := ⟨_, rfl⟩
  have hX0 : Row W0 w.heap.size 25 [.pointer (some ⟨g, 0, none⟩)] := by rw [hW0]; exact (Row.new w _ [.pointer (some ⟨g, 0, none⟩)]).alloc _
  have hN0 : Row W0 (w.heap.size + 1) 3 [.int .i64 (n : Int)] := by rw [hW0]; exact Row.newAtB _ _ [.int .i64 (n : Int)] _ (by simp)
  have hC0 : Chg none_ w W0 := by rw [hW0]; exact ((Chg.refl none_ w).alloc _).alloc _
  have HW0 := Lib.hid hW0
  clear hW0
  refine (callsIn_wide (n := 2)).1 ?_
  refine callsIn_of_wp_marks Try.func11 rfl trivial ?_ rfl
  simp only [Try.ntmps11, List.size_toArray, List.length_cons, List.length_nil, Nat.reduceAdd, Nat.reduceSub, Array.replicate_succ, Array.replicate_zero, List.push_toArray, List.append_toArray, List.nil_append, List.cons_append]
  gi_wp2
  rw [← HW0.out]
  clear HW0
  refine wpIn_wide.2 ?_
  refine Code.wp_mono (Q := fun e a w3 => e = .normal ∧ ∃ bd A, W0.heap.size ≤ bd ∧ a = { tmps := #[.pointer (some ⟨g, 0, none⟩), .int .i64 (n : Int), .pointer (some ⟨w.heap.size, 0, none⟩), .pointer (some ⟨w.heap.size + 1, 0, none⟩), .slice none 0 0, .pointer (some ⟨bd, 0, none⟩), undef, undef, .pointer (some ⟨g, 0, none⟩), .bool false, .bool false, .int .i64 (n : Int), .bool (decide ((n : Int) < 1)), .bool (decide ((n : Int) < 1)), .int .i64 (n : Int), .pointer (some ⟨g, 0, none⟩), .int .i64 ((s.gap - s.rd : Nat) : Int), .int .i64 (k : Int), .slice A 0 k, undef, undef, undef, undef, undef, undef, undef, undef, undef, undef, undef, undef, undef, undef, undef, undef, undef, undef, undef, undef, undef, undef, undef, undef, undef, undef, undef, undef, undef, undef, undef, undef], defers := [] } ∧ Row w3 bd 22 [.slice A 0 k] ∧ Owned w3 w.heap.size (.slice A 0 k) [] ∧ Chg none_ W0 w3) ?imp ?reg
  case reg =>
    refine wp_region_held_drew (S := fun x => Chg none_ W0 x) (by kernel_rfl) ((Chg.refl none_ W0).drew) (fun hch0 => ?_)
    refine wpAnyH_take (i := 0) (v := .int .i64 (n : Int)) rfl (by kernel_rfl) (by kernel_rfl) (by kernel_rfl) (by first | exact fun _ _ _ h => h | exact fun _ _ _ h => nomatch h.1) (Or.inl ⟨by rfl, fun w_ hw_ => by have c := (hN0.chg hw_ (fun h => h)).cell 0; simp only [List.getElem?_cons_zero] at c; go_simp⟩) hch0 ?_
    try simp only [Act.put, List.setIfInBounds_toArray, List.set_cons_zero, List.set_cons_succ, List.getElem_toArray, List.getElem_cons_zero]
    refine wpAnyH_take (i := 1) (v := .pointer (some ⟨g, 0, none⟩)) rfl (by kernel_rfl) (by kernel_rfl) (by kernel_rfl) (by first | exact fun _ _ _ h => h | exact fun _ _ _ h => nomatch h.1) (Or.inl ⟨by rfl, fun w_ hw_ => by have c := (hX0.chg hw_ (fun h => h)).cell 0; simp only [List.getElem?_cons_zero] at c; go_simp⟩) hch0 ?_
    try simp only [Act.put, List.setIfInBounds_toArray, List.set_cons_zero, List.set_cons_succ, List.getElem_toArray, List.getElem_cons_succ, List.getElem_cons_zero]
    refine wpAnyH_ready (rs := [2, 5]) (by kernel_rfl) (by simp) ?_
    refine AllReadyH.cons rfl (fun K hK => ?_) (AllReadyH.cons rfl (fun K hK => ?_) AllReadyH.nil)
    · rw [if_pos (by rfl)]
      try simp only [List.getElem_toArray, List.getElem_cons_succ, List.getElem_cons_zero]
      go_simp
      refine (bReady_any g m s hco _ (h0.out _ (hC0.trans hch0))).mono ?_
      rintro e w3 ⟨rfl, k3, rfl⟩
      have h3 := hch0.drewN k3
      refine hK.out _ _ (h3) (fun _ => ?_)
      clear hK K
      try simp only [Act.put, List.setIfInBounds_toArray, List.set_cons_zero, List.set_cons_succ, List.getElem_toArray, List.getElem_cons_succ, List.getElem_cons_zero]
      refine wpAnyH_take (i := 3) (v := .int .i64 (k : Int)) rfl (by kernel_rfl) (by kernel_rfl) (by kernel_rfl) (by first | exact fun _ _ _ h => h | exact fun _ _ _ h => nomatch h.1) (Or.inl ⟨by rfl, fun w_ hw_ => by rcases HMN.out with ⟨x1, x2⟩ | ⟨x1, x2⟩ <;> rw [x2] <;> go_simp <;> (intro x3; omega)⟩) h3 ?_
      try simp only [Act.put, List.setIfInBounds_toArray, List.set_cons_zero, List.set_cons_succ, List.getElem_toArray, List.getElem_cons_succ, List.getElem_cons_zero]
      refine wpAnyH_ready (rs := [4, 5]) (by kernel_rfl) (by simp) ?_
      refine AllReadyH.cons rfl (fun K hK => ?_) (AllReadyH.cons rfl (fun K hK => ?_) AllReadyH.nil)
      · rw [if_pos (by rfl)]
        try simp only [List.getElem_toArray, List.getElem_cons_succ, List.getElem_cons_zero]
        refine wp_make_room _ _ 22 rfl Try.underlying22 (by kernel_rfl) k w.heap.size rfl rfl hk6 (Nat.le_trans hC0.size h3.size) ?_
        intro w4 how hc4
        have h4 := h3.trans hc4
        refine hK.out _ _ (h4) (fun _ => ?_)
        clear hK K
        try simp only [Act.put, List.setIfInBounds_toArray, List.set_cons_zero, List.set_cons_succ]
        refine wpAnyH_ready (rs := [5]) (by kernel_rfl) (by simp) ?_
        refine AllReadyH.cons rfl (fun K hK => ?_) AllReadyH.nil
        rw [if_pos (by rfl)]
        try simp only [List.getElem_toArray, List.getElem_cons_succ, List.getElem_cons_zero]
        refine wp_alloc_one (ty := 22) (z := .slice none 0 0) rfl (by kernel_rfl) rfl ?_
        intro w5 hbd hc5 hs5
        have h5 := h4.trans hc5
        have hbd : Row w5 (w4.heap.size) 22 [.slice none 0 0] := hbd
        have hge : W0.heap.size ≤ w4.heap.size := h4.size
        have how := how.chg' (hc5 : Chg none_ _ _) (fun _ _ h => h)
        refine hK.out _ _ (h5) (fun _ => ?_)
        clear hK K
        try simp only [Act.put, List.setIfInBounds_toArray, List.set_cons_zero, List.set_cons_succ]
        refine wpAnyH_ready (rs := [6]) (by kernel_rfl) (by simp) ?_
        refine AllReadyH.cons rfl (fun K hK => ?_) AllReadyH.nil
        rw [if_pos (by rfl)]
        try simp only [List.getElem_toArray, List.getElem_cons_succ, List.getElem_cons_zero]
        have hz1 := hbd.cell 0
        have hz2 := hbd.frozen 0
        simp only [List.getElem?_cons_zero] at hz1
        have hfar := own_far how hbd (by decide)
        go_simp
        refine hK.out _ _ (h5.setCell (p := ⟨w4.heap.size, 0, none⟩) (fun x => absurd x (by have := hge; simp only; omega)) _) (fun _ => ?_)
        clear hK K
        try simp only [Act.put, List.setIfInBounds_toArray, List.set_cons_zero, List.set_cons_succ, List.getElem_toArray, List.getElem_cons_succ, List.getElem_cons_zero]
        refine wpAnyH_done (by kernel_rfl) ?_ _
        exact ⟨rfl, w4.heap.size, _, hge, rfl, hbd.set 0 _, how.chg' ((Chg.refl (· = w4.heap.size) _).setCell (p := ⟨w4.heap.size, 0, none⟩) (fun _ => rfl) _) hfar, h5.setCell (p := ⟨w4.heap.size, 0, none⟩) (fun x => absurd x (by have := hge; simp only; omega)) _⟩
      · rw [if_pos (by rfl)]
        try simp only [List.getElem_toArray, List.getElem_cons_succ, List.getElem_cons_zero]
        refine wp_alloc_one (ty := 22) (z := .slice none 0 0) rfl (by kernel_rfl) rfl ?_
        intro w5 hbd hc5 hs5
        have h4 := h3.trans hc5
        have hbd : Row w5 (W0.heap.size) 22 [.slice none 0 0] := hbd
        have hge : W0.heap.size ≤ W0.heap.size := h3.size
        refine hK.out _ _ (h4) (fun _ => ?_)
        clear hK K
        try simp only [Act.put, List.setIfInBounds_toArray, List.set_cons_zero, List.set_cons_succ]
        refine wpAnyH_ready (rs := [4]) (by kernel_rfl) (by simp) ?_
        refine AllReadyH.cons rfl (fun K hK => ?_) AllReadyH.nil
        rw [if_pos (by rfl)]
        try simp only [List.getElem_toArray, List.getElem_cons_succ, List.getElem_cons_zero]
        refine wp_make_room _ _ 22 rfl Try.underlying22 (by kernel_rfl) k w.heap.size rfl rfl hk6 (Nat.le_trans hC0.size h4.size) ?_
        intro w4 how hc4
        have hbd := hbd.chg hc4 (fun h => h)
        have how : Owned w4 w.heap.size (.slice (some ⟨W0.heap.size + 1, 0, none⟩) 0 k) [] := by
          have e : w5.heap.size = W0.heap.size + 1 := hs5
          rw [← e]
          exact how
        have h5 := h4.trans hc4
        refine hK.out _ _ (h5) (fun _ => ?_)
        clear hK K
        try simp only [Act.put, List.setIfInBounds_toArray, List.set_cons_zero, List.set_cons_succ]
        refine wpAnyH_ready (rs := [6]) (by kernel_rfl) (by simp) ?_
        refine AllReadyH.cons rfl (fun K hK => ?_) AllReadyH.nil
        rw [if_pos (by rfl)]
        try simp only [List.getElem_toArray, List.getElem_cons_succ, List.getElem_cons_zero]
        have hz1 := hbd.cell 0
        have hz2 := hbd.frozen 0
        simp only [List.getElem?_cons_zero] at hz1
        have hfar := own_far how hbd (by decide)
        go_simp
        refine hK.out _ _ (h5.setCell (p := ⟨W0.heap.size, 0, none⟩) (fun x => absurd x (by have := hge; simp only; omega)) _) (fun _ => ?_)
        clear hK K
        try simp only [Act.put, List.setIfInBounds_toArray, List.set_cons_zero, List.set_cons_succ, List.getElem_toArray, List.getElem_cons_succ, List.getElem_cons_zero]
        refine wpAnyH_done (by kernel_rfl) ?_ _
        exact ⟨rfl, W0.heap.size, _, hge, rfl, hbd.set 0 _, how.chg' ((Chg.refl (· = W0.heap.size) _).setCell (p := ⟨W0.heap.size, 0, none⟩) (fun _ => rfl) _) hfar, h5.setCell (p := ⟨W0.heap.size, 0, none⟩) (fun x => absurd x (by have := hge; simp only; omega)) _⟩
    · rw [if_pos (by rfl)]
      try simp only [List.getElem_toArray, List.getElem_cons_succ, List.getElem_cons_zero]
      refine wp_alloc_one (ty := 22) (z := .slice none 0 0) rfl (by kernel_rfl) rfl ?_
      intro w5 hbd hc5 hs5
      have h3 := hch0.trans hc5
      have hbd : Row w5 (W0.heap.size) 22 [.slice none 0 0] := hbd
      have hge : W0.heap.size ≤ W0.heap.size := hch0.size
      refine hK.out _ _ (h3) (fun _ => ?_)
      clear hK K
      try simp only [Act.put, List.setIfInBounds_toArray, List.set_cons_zero, List.set_cons_succ]
      refine wpAnyH_ready (rs := [2]) (by kernel_rfl) (by simp) ?_
      refine AllReadyH.cons rfl (fun K hK => ?_) AllReadyH.nil
      rw [if_pos (by rfl)]
      try simp only [List.getElem_toArray, List.getElem_cons_succ, List.getElem_cons_zero]
      go_simp
      refine (bReady_any g m s hco _ (h0.out _ (hC0.trans h3))).mono ?_
      rintro e w3 ⟨rfl, k3, rfl⟩
      have hbd := hbd.drewN k3
      have h4 := h3.drewN k3
      refine hK.out _ _ (h4) (fun _ => ?_)
      clear hK K
      try simp only [Act.put, List.setIfInBounds_toArray, List.set_cons_zero, List.set_cons_succ, List.getElem_toArray, List.getElem_cons_succ, List.getElem_cons_zero]
      refine wpAnyH_take (i := 3) (v := .int .i64 (k : Int)) rfl (by kernel_rfl) (by kernel_rfl) (by kernel_rfl) (by first | exact fun _ _ _ h => h | exact fun _ _ _ h => nomatch h.1) (Or.inl ⟨by rfl, fun w_ hw_ => by rcases HMN.out with ⟨x1, x2⟩ | ⟨x1, x2⟩ <;> rw [x2] <;> go_simp <;> (intro x3; omega)⟩) h4 ?_
      try simp only [Act.put, List.setIfInBounds_toArray, List.set_cons_zero, List.set_cons_succ, List.getElem_toArray, List.getElem_cons_succ, List.getElem_cons_zero]
      refine wpAnyH_ready (rs := [4]) (by kernel_rfl) (by simp) ?_
      refine AllReadyH.cons rfl (fun K hK => ?_) AllReadyH.nil
      rw [if_pos (by rfl)]
      try simp only [List.getElem_toArray, List.getElem_cons_succ, List.getElem_cons_zero]
      refine wp_make_room _ _ 22 rfl Try.underlying22 (by kernel_rfl) k w.heap.size rfl rfl hk6 (Nat.le_trans hC0.size h4.size) ?_
      intro w4 how hc4
      have hbd := hbd.chg hc4 (fun h => h)
      have how : Owned w4 w.heap.size (.slice (some ⟨W0.heap.size + 1, 0, none⟩) 0 k) [] := by
        have e : w5.heap.size = W0.heap.size + 1 := hs5
        rw [← e]
        exact how
      have h5 := h4.trans hc4
      refine hK.out _ _ (h5) (fun _ => ?_)
      clear hK K
      try simp only [Act.put, List.setIfInBounds_toArray, List.set_cons_zero, List.set_cons_succ]
      refine wpAnyH_ready (rs := [6]) (by kernel_rfl) (by simp) ?_
      refine AllReadyH.cons rfl (fun K hK => ?_) AllReadyH.nil
      rw [if_pos (by rfl)]
      try simp only [List.getElem_toArray, List.getElem_cons_succ, List.getElem_cons_zero]
      have hz1 := hbd.cell 0
      have hz2 := hbd.frozen 0
      simp only [List.getElem?_cons_zero] at hz1
      have hfar := own_far how hbd (by decide)
      go_simp
      refine hK.out _ _ (h5.setCell (p := ⟨W0.heap.size, 0, none⟩) (fun x => absurd x (by have := hge; simp only; omega)) _) (fun _ => ?_)
      clear hK K
      try simp only [Act.put, List.setIfInBounds_toArray, List.set_cons_zero, List.set_cons_succ, List.getElem_toArray, List.getElem_cons_succ, List.getElem_cons_zero]
      refine wpAnyH_done (by kernel_rfl) ?_ _
      exact ⟨rfl, W0.heap.size, _, hge, rfl, hbd.set 0 _, how.chg' ((Chg.refl (· = W0.heap.size) _).setCell (p := ⟨W0.heap.size, 0, none⟩) (fun _ => rfl) _) hfar, h5.setCell (p := ⟨W0.heap.size, 0, none⟩) (fun x => absurd x (by have := hge; simp only; omega)) _⟩
  case imp =>
  rintro e a w3 ⟨rfl, bd, A, hbdge, rfl, hbd, how, hc3⟩
  have hC3 := hC0.trans hc3
  have hB3 := h0.out _ hC3
  have hX3 : Row w3 w.heap.size 25 [.pointer (some ⟨g, 0, none⟩)] := hX0.chg hc3 (fun h => h)
  have hN3 : Row w3 (w.heap.size + 1) 3 [.int .i64 (n : Int)] := hN0.chg hc3 (fun h => h)
  have hbd3 := hbdge
  have hsz0 := hC0.size
  have hsz1 : w.heap.size + 1 < W0.heap.size := hN0.lt
  clear hX0 hN0 hC0 hc3
  gi_wp2
  refine wpIn_wide.2 ?_
  refine Code.wp_mono (Q := fun e a w8 => e = .normal ∧ a = { tmps := #[.pointer (some ⟨g, 0, none⟩), .int .i64 (n : Int), .pointer (some ⟨w.heap.size, 0, none⟩), .pointer (some ⟨w.heap.size + 1, 0, none⟩), .slice none 0 0, .pointer (some ⟨bd, 0, none⟩), undef, undef, .pointer (some ⟨g, 0, none⟩), .bool false, .bool false, .int .i64 (n : Int), .bool (decide ((n : Int) < 1)), .bool (decide ((n : Int) < 1)), .int .i64 (n : Int), .pointer (some ⟨g, 0, none⟩), .int .i64 ((s.gap - s.rd : Nat) : Int), .int .i64 (k : Int), .slice A 0 k, .pointer (some ⟨g, 0, none⟩), .pointer (some ⟨g, 0, none⟩), .pointer (some ⟨g, 0, none⟩), .pointer (some ⟨g, 2, none⟩), .int .u64 (s.rd : Int), .func (.func 25) #[] #[.pointer (some ⟨w3.heap.size + 1, 0, none⟩), .pointer (some ⟨w3.heap.size, 0, none⟩)], undef, undef, undef, undef, undef, undef, undef, undef, undef, undef, undef, undef, undef, undef, undef, undef, undef, undef, undef, undef, undef, undef, undef, undef, undef, undef], defers := [] } ∧ Row w8 w3.heap.size 25 [.pointer (some ⟨g, 0, none⟩)] ∧ Row w8 (w3.heap.size + 1) 32 [.int .u64 (s.rd : Int)] ∧ Chg none_ w3 w8) ?imp ?reg
  case reg =>
    refine wp_region_held_drew (S := fun x => Chg none_ w3 x) (by kernel_rfl) ((Chg.refl none_ w3).drew) (fun hch0 => ?_)
    refine wpAnyH_take (i := 0) (v := .pointer (some ⟨g, 0, none⟩)) rfl (by kernel_rfl) (by kernel_rfl) (by kernel_rfl) (by first | exact fun _ _ _ h => h | exact fun _ _ _ h => nomatch h.1) (Or.inl ⟨by rfl, fun w_ hw_ => by have c := (hX3.chg hw_ (fun h => h)).cell 0; simp only [List.getElem?_cons_zero] at c; go_simp⟩) hch0 ?_
    try simp only [Act.put, List.setIfInBounds_toArray, List.set_cons_zero, List.set_cons_succ, List.getElem_toArray, List.getElem_cons_zero]
    refine wpAnyH_take (i := 1) (v := .pointer (some ⟨g, 0, none⟩)) rfl (by kernel_rfl) (by kernel_rfl) (by kernel_rfl) (by first | exact fun _ _ _ h => h | exact fun _ _ _ h => nomatch h.1) (Or.inl ⟨by rfl, fun w_ hw_ => by have c := (hX3.chg hw_ (fun h => h)).cell 0; simp only [List.getElem?_cons_zero] at c; go_simp⟩) hch0 ?_
    try simp only [Act.put, List.setIfInBounds_toArray, List.set_cons_zero, List.set_cons_succ, List.getElem_toArray, List.getElem_cons_succ, List.getElem_cons_zero]
    refine wpAnyH_take (i := 2) (v := .pointer (some ⟨g, 0, none⟩)) rfl (by kernel_rfl) (by kernel_rfl) (by kernel_rfl) (by first | exact fun _ _ _ h => h | exact fun _ _ _ h => nomatch h.1) (Or.inl ⟨by rfl, fun w_ hw_ => by go_simp⟩) hch0 ?_
    try simp only [Act.put, List.setIfInBounds_toArray, List.set_cons_zero, List.set_cons_succ, List.getElem_toArray, List.getElem_cons_succ, List.getElem_cons_zero]
    refine wpAnyH_take (i := 3) (v := .pointer (some ⟨g, 2, none⟩)) rfl (by kernel_rfl) (by kernel_rfl) (by kernel_rfl) (by first | exact fun _ _ _ h => h | exact fun _ _ _ h => nomatch h.1) (Or.inl ⟨by rfl, fun w_ hw_ => by go_simp⟩) hch0 ?_
    try simp only [Act.put, List.setIfInBounds_toArray, List.set_cons_zero, List.set_cons_succ, List.getElem_toArray, List.getElem_cons_succ, List.getElem_cons_zero]
    refine wpAnyH_take (i := 4) (v := .int .u64 (s.rd : Int)) rfl (by kernel_rfl) (by kernel_rfl) (by kernel_rfl) (by first | exact fun _ _ _ h => h | exact fun _ _ _ h => nomatch h.1) (Or.inl ⟨by rfl, fun w_ hw_ => by have c := (hB3.row.chg hw_ (fun h => h)).cell 2; simp only [cellsB, List.getElem?_cons_zero, List.getElem?_cons_succ] at c; go_simp⟩) hch0 ?_
    try simp only [Act.put, List.setIfInBounds_toArray, List.set_cons_zero, List.set_cons_succ, List.getElem_toArray, List.getElem_cons_succ, List.getElem_cons_zero]
    refine wpAnyH_ready (rs := [5]) (by kernel_rfl) (by simp) ?_
    refine AllReadyH.cons rfl (fun K hK => ?_) AllReadyH.nil
    rw [if_pos (by rfl)]
    try simp only [List.getElem_toArray, List.getElem_cons_succ, List.getElem_cons_zero]
    go_simp
    refine (from_any g s.rd _).mono ?_
    rintro e w8 ⟨rfl, hb8, hp8, hc8⟩
    have hch8 : Chg none_ w3 w8 := hch0.trans hc8
    refine hK.out _ _ (hch8) (fun _ => ?_)
    clear hK K
    try simp only [Act.put, List.setIfInBounds_toArray, List.set_cons_zero, List.set_cons_succ, List.getElem_toArray, List.getElem_cons_succ, List.getElem_cons_zero]
    refine wpAnyH_done (by kernel_rfl) ?_ _
    exact ⟨rfl, rfl, hb8, hp8, hch8⟩
  case imp =>
  rintro e a w8 ⟨rfl, rfl, HBX, HPX, hch8⟩
  have hB8 : BufAt w8 g m s := hB3.chg hch8 (fun h => h) (fun h => h)
  have hX8 : Row w8 w.heap.size 25 [.pointer (some ⟨g, 0, none⟩)] := hX3.chg hch8 (fun h => h)
  have hN8 : Row w8 (w.heap.size + 1) 3 [.int .i64 (n : Int)] := hN3.chg hch8 (fun h => h)
  have hD8 : Row w8 bd 22 [.slice A 0 k] := hbd.chg hch8 (fun h => h)
  have hO8 : Owned w8 w.heap.size (.slice A 0 k) [] := how.chg' hch8 (fun _ _ h => h)
  have hC8 : Chg (of2 g m) w w8 := (hC3.trans hch8).mono (fun _ _ h => h.elim)
  have hbdl : bd < w3.heap.size := hbd.lt
  clear hB3 hX3 hN3 hC3 hbd how
  gi_wp2
  have hml8 : m < w8.heap.size := hB8.map.lt
  have hwl8 : w.heap.size ≤ w8.heap.size := hC8.size
  have hpl : w3.heap.size + 1 < w8.heap.size := HPX.lt
  have hsz3 : w.heap.size ≤ w3.heap.size := by omega
  have hne : bd ≠ w.heap.size ∧ bd ≠ w.heap.size + 1 ∧ bd ≠ g ∧ bd ≠ m ∧ bd ≠ w3.heap.size ∧ bd ≠ w3.heap.size + 1 := by omega
  refine wpIn_rangeFunc_G (by decide) (gf := 25) (lb := #[.pointer (some ⟨w3.heap.size + 1, 0, none⟩), .pointer (some ⟨w3.heap.size, 0, none⟩)]) rfl (enters_of Try.func25 (by kernel_rfl) rfl)
    (from_seq w3.heap.size (w3.heap.size + 1) g m s.rd (s.rd + s.win) s.B (fun q x h => (hco.byte q x h).2) (by omega) (Nat.le_add_right _ _)) (fun _ => rfl)
    (fun q W => ∃ v, RdI w g m n bd w3.heap.size s v q W)
    (fun c p W => c = .exit 0 ∧ ∃ v q x, p = q ++ [x] ∧ q.length = n ∧ RdI w g m n bd w3.heap.size s v q W)
    (fun q A B row hs hg hr => by obtain ⟨v, h⟩ := hs; exact ⟨v, h.from hml8 hwl8 hg hr⟩)
    (fun c q A B row hs hg hr => by obtain ⟨h1, v, q, x, h2, h3, h⟩ := hs; exact ⟨h1, v, q, x, h2, h3, h.from hml8 hwl8 hg hr⟩)
    (fun pre W hs => by
      obtain ⟨v, h⟩ := hs
      exact ⟨h.pbx, h.ppx, ⟨_, h.buf.row⟩, _, h.buf.map, fun q hq => by rw [lookN_strike hco.nod, if_neg (by omega), hco.look, if_neg (by omega)]⟩)
    ⟨.slice A 0 k, SeqOf.nil _ _, Nat.zero_le _, hX8, hN8, hD8, hO8, hB8, HBX, HPX, hC8⟩
    (fun x => { tmps := #[.pointer (some ⟨g, 0, none⟩), .int .i64 (n : Int), .pointer (some ⟨w.heap.size, 0, none⟩), .pointer (some ⟨w.heap.size + 1, 0, none⟩), .slice none 0 0, .pointer (some ⟨bd, 0, none⟩), .int .u64 (x.1 : Int), .int .u8 (x.2 : Int), .pointer (some ⟨g, 0, none⟩), .bool false, .bool false, .int .i64 (n : Int), .bool (decide ((n : Int) < 1)), .bool (decide ((n : Int) < 1)), .int .i64 (n : Int), .pointer (some ⟨g, 0, none⟩), .int .i64 ((s.gap - s.rd : Nat) : Int), .int .i64 (k : Int), .slice A 0 k, .pointer (some ⟨g, 0, none⟩), .pointer (some ⟨g, 0, none⟩), .pointer (some ⟨g, 0, none⟩), .pointer (some ⟨g, 2, none⟩), .int .u64 (s.rd : Int), .func (.func 25) #[] #[.pointer (some ⟨w3.heap.size + 1, 0, none⟩), .pointer (some ⟨w3.heap.size, 0, none⟩)], .int .u64 (x.1 : Int), .int .u8 (x.2 : Int), undef, undef, undef, undef, undef, undef, undef, undef, undef, undef, undef, undef, undef, undef, undef, undef, undef, undef, undef, undef, undef, undef, undef, undef], defers := [] }) ?assign ?body ?done ?stop
  case assign =>
    intro l x W K hK
    simp only [encB]
    gi_wp2
    exact hK
  case body =>
    rintro l q ⟨x1, x2⟩ W ⟨v, hI⟩ ⟨hx1, hx2⟩
    simp only at hx1 hx2
    have hql := hI.len_le hs
    obtain ⟨A5, c5, rfl, hA1, hA2, hA3⟩ := hI.own.view
    rw [List.length_map] at hA1
    have HI := Lib.hid hI
    have c0 := hI.box.cell 0
    have c1 := hI.num.cell 0
    have cd := hI.dat.cell 0
    simp only [List.getElem?_cons_zero, List.length_map] at c0 c1 cd
    have HD := Lib.hid (show Row W bd 22 [.slice A5 q.length c5] from by have := hI.dat; rwa [List.length_map] at this)
    have HO := Lib.hid (show Owned W w.heap.size (.slice A5 q.length c5) (q.map (·.2)) from by have := hI.own; rwa [List.length_map] at this)
    have HI2 := Lib.hid (show RdI w g m n bd w3.heap.size s (.slice A5 q.length c5) q W from by have := hI; rwa [List.length_map] at this)
    have hlen6 : q.length ≤ 100000 := by omega
    have hWs := hI.chg.size
    clear hI hA3 HI
    by_cases hqn : q.length = n
    · have e1 : ((q.length : Int) == (n : Int)) = true := by rw [hqn]; simp
      gi_wp2
      exact ⟨KeepsFrom.refl _ _, rfl, _, q, (x1, x2), rfl, hqn, HI2.out⟩
    · have e1 : ((q.length : Int) == (n : Int)) = false := by rw [beq_eq_false_iff_ne]; omega
      have hqn2 : q.length < n := by have := HI2.out.le; omega
      have HX1 := Lib.hid hx1
      have HX2 := Lib.hid hx2
      clear hx1 hx2
      gi_wp2_with (first | ((with_reducible show wpListIn _ _ _ _ _ (⟨some 34, _, _, _, _, _⟩ :: _) _ _); refine wpListIn_append1 rfl _ _ 22 rfl Try.underlying22 (base := w.heap.size) (v := .slice A5 q.length c5) (L := q.map (·.2)) (M := [x2]) (T := fun _ => True) (m := 1) (c := 1) (A := some ⟨W.heap.size, 0, none⟩) ?g1 ?g2 ?g3 ?g4 ?g5 ?g6 ?g7; (case g1 => exact rfl); (case g2 => exact (HO.out.chg' ((Chg.refl none_ W).alloc _) (fun _ _ h => h))); (case g3 => exact rfl); (case g4 => exact (View.all (Row.new W 5 [.int .u8 (x2 : Int)]) rfl trivial)); (case g5 => rw [List.length_map]; omega); (case g6 => rw [World.size_alloc]; omega); intro v2 W2 ho2 hc2; obtain ⟨A6, c6, hv6, _, _, _⟩ := ho2.view; subst hv6; have HO2 := Lib.hid ho2; have HC2 := Lib.hid hc2; have HD2 := Lib.hid (dat_app HD.out ne22 HO.out hc2); clear ho2 hc2) | ((with_reducible show wpListIn _ _ _ _ _ (⟨none, .store _ _ _, _, _, _, _⟩ :: _) _ _); refine wpListIn_store_data rfl rfl rfl rfl HD2.out ?_; intro W3 hr3 hc3; have HR3 := Lib.hid hr3; have HC3 := Lib.hid hc3; have HT := Lib.hid (HI2.out.mid ((Chg.refl none_ W).alloc _) HC2.out HC3.out hne); have d0 := HT.out.1.cell 0; have d1 := HT.out.2.1.cell 1; simp only [cellsB, List.getElem?_cons_zero, List.getElem?_cons_succ] at d0 d1; clear hr3 hc3) | ((with_reducible show wpListIn _ _ _ _ _ (⟨none, .call _, _, _, _, _⟩ :: _) _ _); refine wpListIn_deleteB _ _ rfl rfl x1 rfl rfl Try.underlying49 Try.underlying32 HT.out.2.2 ?_; intro W4 hm4 hc4 hs4; have HM4 := Lib.hid hm4; have HC4 := Lib.hid hc4; clear hm4 hc4 hs4))
      have hfin := HI2.out.round ((Chg.refl none_ W).alloc _) HC2.out HO2.out HR3.out HC3.out HM4.out HC4.out HX1.out HX2.out hqn2 hml8 hne hml hsz3 (by omega)
      exact ⟨hfin.1, trivial, _, hfin.2⟩
  case done =>
    rintro D q W hD hS ⟨v, hI⟩ hK
    have hqk : q.length = k := by
      have h1 := hI.len_le hs
      have h2 := hI.le
      have h3 : ¬ s.rd + q.length < s.gap := fun h => by obtain ⟨x, hx⟩ := hco.below _ h; rw [hS] at hx; cases hx
      rw [HKM.out]
      omega
    have hbl : (bytesB s.B s.rd k).length = k := bytesB_length _ _ _
    have hqb : q.map (·.2) = bytesB s.B s.rd k := by rw [hI.seq.bytes, hqk]
    obtain ⟨A5, c5, rfl, _, _, _⟩ := hI.own.view
    have HJ := Lib.hid hI
    have HJO := Lib.hid hI.own
    rw [List.length_map, hqk] at HJ HJO
    rw [hqb] at HJO
    have HJB := Lib.hid HJ.out.buf
    rw [hqk] at HJB
    clear hI
    gi_wp2
    refine wpIn_wide.2 ?_
    refine Code.wp_mono (Q := fun e a wt => e = .normal ∧ a = { tmps := #[.pointer (some ⟨g, 0, none⟩), .int .i64 (n : Int), .pointer (some ⟨w.heap.size, 0, none⟩), .pointer (some ⟨w.heap.size + 1, 0, none⟩), .slice none 0 0, .pointer (some ⟨bd, 0, none⟩), undef, undef, .pointer (some ⟨g, 0, none⟩), .bool false, .bool false, .int .i64 (n : Int), .bool (decide ((n : Int) < 1)), .bool (decide ((n : Int) < 1)), .int .i64 (n : Int), .pointer (some ⟨g, 0, none⟩), .int .i64 ((s.gap - s.rd : Nat) : Int), .int .i64 (k : Int), .slice A 0 k, .pointer (some ⟨g, 0, none⟩), .pointer (some ⟨g, 0, none⟩), .pointer (some ⟨g, 0, none⟩), .pointer (some ⟨g, 2, none⟩), .int .u64 (s.rd : Int), .func (.func 25) #[] #[.pointer (some ⟨w3.heap.size + 1, 0, none⟩), .pointer (some ⟨w3.heap.size, 0, none⟩)], undef, undef, undef, undef, undef, undef, undef, undef, undef, undef, undef, undef, undef, undef, undef, .pointer (some ⟨g, 0, none⟩), .pointer (some ⟨g, 0, none⟩), .pointer (some ⟨g, 2, none⟩), .int .u64 (s.rd : Int), .slice A5 k c5, .int .i64 (k : Int), .int .u64 (k : Int), .int .u64 ((s.rd : Int) + (k : Int)), .pointer (some ⟨g, 0, none⟩), .pointer (some ⟨g, 2, none⟩), undef], defers := [{ target := .collected D, args := #[] }] } ∧ wt = W.drew.setCell ⟨g, 2, none⟩ (.int .u64 ((s.rd : Int) + (k : Int)))) ?imp ?reg
    case reg =>
      refine wp_region_late (fun x => Chg none_ W x) 10 (by kernel_rfl) ?_
      have hz := (Chg.refl none_ W).drew
      generalize hwz : W.drew = wz at hz ⊢
      refine late_take (i := 0) (v := .pointer (some ⟨g, 0, none⟩)) [1, 2, 3, 7, 8, 9, 10] rfl (by kernel_rfl) (by kernel_rfl) (by kernel_rfl) (by kernel_rfl) (by first | exact fun _ _ _ h => h | exact fun _ _ _ h => nomatch h.1) (Or.inl ⟨by rfl, fun w_ hw_ => by have c := (HJ.out.box.chg hw_ (fun h => h)).cell 0; simp only [List.getElem?_cons_zero] at c; go_simp⟩) hz ?_
      try simp only [Act.put, List.setIfInBounds_toArray, List.set_cons_zero, List.set_cons_succ, List.getElem_toArray, List.getElem_cons_zero]
      refine late_take (i := 1) (v := .pointer (some ⟨g, 0, none⟩)) [2, 3, 7, 10] rfl (by kernel_rfl) (by kernel_rfl) (by kernel_rfl) (by kernel_rfl) (by first | exact fun _ _ _ h => h | exact fun _ _ _ h => nomatch h.1) (Or.inl ⟨by rfl, fun w_ hw_ => by go_simp⟩) hz ?_
      try simp only [Act.put, List.setIfInBounds_toArray, List.set_cons_zero, List.set_cons_succ, List.getElem_toArray, List.getElem_cons_succ, List.getElem_cons_zero]
      refine late_take (i := 2) (v := .pointer (some ⟨g, 2, none⟩)) [3, 7, 10] rfl (by kernel_rfl) (by kernel_rfl) (by kernel_rfl) (by kernel_rfl) (by first | exact fun _ _ _ h => h | exact fun _ _ _ h => nomatch h.1) (Or.inl ⟨by rfl, fun w_ hw_ => by go_simp⟩) hz ?_
      try simp only [Act.put, List.setIfInBounds_toArray, List.set_cons_zero, List.set_cons_succ, List.getElem_toArray, List.getElem_cons_succ, List.getElem_cons_zero]
      refine late_take (i := 3) (v := .int .u64 (s.rd : Int)) [7, 10] rfl (by kernel_rfl) (by kernel_rfl) (by kernel_rfl) (by kernel_rfl) (by first | exact fun _ _ _ h => h | exact fun _ _ _ h => nomatch h.1) (Or.inl ⟨by rfl, fun w_ hw_ => by have c := (HJB.out.row.chg hw_ (fun h => h)).cell 2; simp only [cellsB, List.getElem?_cons_zero, List.getElem?_cons_succ] at c; go_simp⟩) hz ?_
      try simp only [Act.put, List.setIfInBounds_toArray, List.set_cons_zero, List.set_cons_succ, List.getElem_toArray, List.getElem_cons_succ, List.getElem_cons_zero]
      refine late_take (i := 4) (v := .slice A5 k c5) [5, 6, 7, 10] rfl (by kernel_rfl) (by kernel_rfl) (by kernel_rfl) (by kernel_rfl) (by first | exact fun _ _ _ h => h | exact fun _ _ _ h => nomatch h.1) (Or.inl ⟨by rfl, fun w_ hw_ => by have c := (HJ.out.dat.chg hw_ (fun h => h)).cell 0; simp only [List.getElem?_cons_zero] at c; go_simp⟩) hz ?_
      try simp only [Act.put, List.setIfInBounds_toArray, List.set_cons_zero, List.set_cons_succ, List.getElem_toArray, List.getElem_cons_succ, List.getElem_cons_zero]
      refine late_take (i := 5) (v := .int .i64 (k : Int)) [6, 7, 10] rfl (by kernel_rfl) (by kernel_rfl) (by kernel_rfl) (by kernel_rfl) (by first | exact fun _ _ _ h => h | exact fun _ _ _ h => nomatch h.1) (Or.inl ⟨by rfl, fun w_ hw_ => by go_simp⟩) hz ?_
      try simp only [Act.put, List.setIfInBounds_toArray, List.set_cons_zero, List.set_cons_succ, List.getElem_toArray, List.getElem_cons_succ, List.getElem_cons_zero]
      refine late_take (i := 6) (v := .int .u64 (k : Int)) [7, 10] rfl (by kernel_rfl) (by kernel_rfl) (by kernel_rfl) (by kernel_rfl) (by first | exact fun _ _ _ h => h | exact fun _ _ _ h => nomatch h.1) (Or.inl ⟨by rfl, fun w_ hw_ => by go_simp; exact wrapU k (by omega)⟩) hz ?_
      try simp only [Act.put, List.setIfInBounds_toArray, List.set_cons_zero, List.set_cons_succ, List.getElem_toArray, List.getElem_cons_succ, List.getElem_cons_zero]
      refine late_take (i := 7) (v := .int .u64 ((s.rd : Int) + (k : Int))) [10] rfl (by kernel_rfl) (by kernel_rfl) (by kernel_rfl) (by kernel_rfl) (by first | exact fun _ _ _ h => h | exact fun _ _ _ h => nomatch h.1) (Or.inl ⟨by rfl, fun w_ hw_ => by go_simp; exact wrapU (s.rd + k) (by omega)⟩) hz ?_
      try simp only [Act.put, List.setIfInBounds_toArray, List.set_cons_zero, List.set_cons_succ, List.getElem_toArray, List.getElem_cons_succ, List.getElem_cons_zero]
      refine late_take (i := 8) (v := .pointer (some ⟨g, 0, none⟩)) [9, 10] rfl (by kernel_rfl) (by kernel_rfl) (by kernel_rfl) (by kernel_rfl) (by first | exact fun _ _ _ h => h | exact fun _ _ _ h => nomatch h.1) (Or.inl ⟨by rfl, fun w_ hw_ => by go_simp⟩) hz ?_
      try simp only [Act.put, List.setIfInBounds_toArray, List.set_cons_zero, List.set_cons_succ, List.getElem_toArray, List.getElem_cons_succ, List.getElem_cons_zero]
      refine late_take (i := 9) (v := .pointer (some ⟨g, 2, none⟩)) [10] rfl (by kernel_rfl) (by kernel_rfl) (by kernel_rfl) (by kernel_rfl) (by first | exact fun _ _ _ h => h | exact fun _ _ _ h => nomatch h.1) (Or.inl ⟨by rfl, fun w_ hw_ => by go_simp⟩) hz ?_
      try simp only [Act.put, List.setIfInBounds_toArray, List.set_cons_zero, List.set_cons_succ, List.getElem_toArray, List.getElem_cons_succ, List.getElem_cons_zero]
      refine late_last (by kernel_rfl) rfl (by kernel_rfl) (fun K hK => ?_)
      rw [if_pos (by rfl)]
      try simp only [List.getElem_toArray, List.getElem_cons_succ, List.getElem_cons_zero]
      have c := (HJB.out.row.chg hz (fun h => h)).cell 2
      have z := (HJB.out.row.chg hz (fun h => h)).frozen 2
      simp only [cellsB, List.getElem?_cons_zero, List.getElem?_cons_succ] at c
      go_simp
      refine hK.out _ _ ?_
      clear hK K
      exact ⟨rfl, rfl, hwz ▸ rfl⟩
    case imp =>
    rintro e a wt ⟨rfl, rfl, hwt⟩
    obtain ⟨t1, t2, t3, t4, t5⟩ := chg_rd HJB.out HJ.out.chg HJ.out.dat HJO.out hne.2.2.1 hwt
    have cd := t3.cell 0
    simp only [List.getElem?_cons_zero] at cd
    have hK2 : wt.heap[D]? = some (.deferred (some [])) := (t5.block D (Array.getElem?_eq_some_iff.1 hK).1 (by omega)).trans hK
    have HT := Lib.hid (And.intro t1 (And.intro t2 t4))
    clear t1 t2 t3 t4 t5 hwt HJ HJO HJB
    gi_wp2
    have hfr : ∀ r, some D = some r → w8.heap.size ≤ r ∧ ∃ o : Obj, wt.heap[r]? = some o ∧ o.isCells = false := fun r e => by cases e; exact ⟨hD, _, hK2, rfl⟩
    obtain ⟨t1, t2, t4⟩ := HT.out
    refine ⟨by simp, .inl ⟨_, _, rfl, run_takeDeferred hK2, ?_⟩⟩
    exact ⟨_, results_tmp rfl _ _ _, _, rfl, own_fromB t4 (grownBy_putObj' _ D (.deferred none)) hfr, buf_fromB t1 hml8 (grownBy_putObj' _ D (.deferred none)) hfr, chg_fromB t2 hwl8 (grownBy_putObj' _ D (.deferred none)) hfr⟩
  case stop =>
    rintro D c p W hD ⟨rfl, v, q, x, rfl, hqn, hI⟩ hK
    have hqk : q.length = k := by
      have h1 := hI.len_le hs
      rw [HKM.out]
      omega
    have hbl : (bytesB s.B s.rd k).length = k := bytesB_length _ _ _
    have hqb : q.map (·.2) = bytesB s.B s.rd k := by rw [hI.seq.bytes, hqk]
    obtain ⟨A5, c5, rfl, _, _, _⟩ := hI.own.view
    have HJ := Lib.hid hI
    have HJO := Lib.hid hI.own
    rw [List.length_map, hqk] at HJ HJO
    rw [hqb] at HJO
    have HJB := Lib.hid HJ.out.buf
    rw [hqk] at HJB
    clear hI
    gi_wp2
    refine wpIn_wide.2 ?_
    refine Code.wp_mono (Q := fun e a wt => e = .normal ∧ a = { tmps := #[.pointer (some ⟨g, 0, none⟩), .int .i64 (n : Int), .pointer (some ⟨w.heap.size, 0, none⟩), .pointer (some ⟨w.heap.size + 1, 0, none⟩), .slice none 0 0, .pointer (some ⟨bd, 0, none⟩), undef, undef, .pointer (some ⟨g, 0, none⟩), .bool false, .bool false, .int .i64 (n : Int), .bool (decide ((n : Int) < 1)), .bool (decide ((n : Int) < 1)), .int .i64 (n : Int), .pointer (some ⟨g, 0, none⟩), .int .i64 ((s.gap - s.rd : Nat) : Int), .int .i64 (k : Int), .slice A 0 k, .pointer (some ⟨g, 0, none⟩), .pointer (some ⟨g, 0, none⟩), .pointer (some ⟨g, 0, none⟩), .pointer (some ⟨g, 2, none⟩), .int .u64 (s.rd : Int), .func (.func 25) #[] #[.pointer (some ⟨w3.heap.size + 1, 0, none⟩), .pointer (some ⟨w3.heap.size, 0, none⟩)], undef, undef, undef, undef, undef, undef, undef, undef, undef, undef, undef, undef, undef, undef, undef, .pointer (some ⟨g, 0, none⟩), .pointer (some ⟨g, 0, none⟩), .pointer (some ⟨g, 2, none⟩), .int .u64 (s.rd : Int), .slice A5 k c5, .int .i64 (k : Int), .int .u64 (k : Int), .int .u64 ((s.rd : Int) + (k : Int)), .pointer (some ⟨g, 0, none⟩), .pointer (some ⟨g, 2, none⟩), undef], defers := [{ target := .collected D, args := #[] }] } ∧ wt = W.drew.setCell ⟨g, 2, none⟩ (.int .u64 ((s.rd : Int) + (k : Int)))) ?imp ?reg
    case reg =>
      refine wp_region_late (fun x => Chg none_ W x) 10 (by kernel_rfl) ?_
      have hz := (Chg.refl none_ W).drew
      generalize hwz : W.drew = wz at hz ⊢
      refine late_take (i := 0) (v := .pointer (some ⟨g, 0, none⟩)) [1, 2, 3, 7, 8, 9, 10] rfl (by kernel_rfl) (by kernel_rfl) (by kernel_rfl) (by kernel_rfl) (by first | exact fun _ _ _ h => h | exact fun _ _ _ h => nomatch h.1) (Or.inl ⟨by rfl, fun w_ hw_ => by have c := (HJ.out.box.chg hw_ (fun h => h)).cell 0; simp only [List.getElem?_cons_zero] at c; go_simp⟩) hz ?_
      try simp only [Act.put, List.setIfInBounds_toArray, List.set_cons_zero, List.set_cons_succ, List.getElem_toArray, List.getElem_cons_zero]
      refine late_take (i := 1) (v := .pointer (some ⟨g, 0, none⟩)) [2, 3, 7, 10] rfl (by kernel_rfl) (by kernel_rfl) (by kernel_rfl) (by kernel_rfl) (by first | exact fun _ _ _ h => h | exact fun _ _ _ h => nomatch h.1) (Or.inl ⟨by rfl, fun w_ hw_ => by go_simp⟩) hz ?_
      try simp only [Act.put, List.setIfInBounds_toArray, List.set_cons_zero, List.set_cons_succ, List.getElem_toArray, List.getElem_cons_succ, List.getElem_cons_zero]
      refine late_take (i := 2) (v := .pointer (some ⟨g, 2, none⟩)) [3, 7, 10] rfl (by kernel_rfl) (by kernel_rfl) (by kernel_rfl) (by kernel_rfl) (by first | exact fun _ _ _ h => h | exact fun _ _ _ h => nomatch h.1) (Or.inl ⟨by rfl, fun w_ hw_ => by go_simp⟩) hz ?_
      try simp only [Act.put, List.setIfInBounds_toArray, List.set_cons_zero, List.set_cons_succ, List.getElem_toArray, List.getElem_cons_succ, List.getElem_cons_zero]
      refine late_take (i := 3) (v := .int .u64 (s.rd : Int)) [7, 10] rfl (by kernel_rfl) (by kernel_rfl) (by kernel_rfl) (by kernel_rfl) (by first | exact fun _ _ _ h => h | exact fun _ _ _ h => nomatch h.1) (Or.inl ⟨by rfl, fun w_ hw_ => by have c := (HJB.out.row.chg hw_ (fun h => h)).cell 2; simp only [cellsB, List.getElem?_cons_zero, List.getElem?_cons_succ] at c; go_simp⟩) hz ?_
      try simp only [Act.put, List.setIfInBounds_toArray, List.set_cons_zero, List.set_cons_succ, List.getElem_toArray, List.getElem_cons_succ, List.getElem_cons_zero]
      refine late_take (i := 4) (v := .slice A5 k c5) [5, 6, 7, 10] rfl (by kernel_rfl) (by kernel_rfl) (by kernel_rfl) (by kernel_rfl) (by first | exact fun _ _ _ h => h | exact fun _ _ _ h => nomatch h.1) (Or.inl ⟨by rfl, fun w_ hw_ => by have c := (HJ.out.dat.chg hw_ (fun h => h)).cell 0; simp only [List.getElem?_cons_zero] at c; go_simp⟩) hz ?_
      try simp only [Act.put, List.setIfInBounds_toArray, List.set_cons_zero, List.set_cons_succ, List.getElem_toArray, List.getElem_cons_succ, List.getElem_cons_zero]
      refine late_take (i := 5) (v := .int .i64 (k : Int)) [6, 7, 10] rfl (by kernel_rfl) (by kernel_rfl) (by kernel_rfl) (by kernel_rfl) (by first | exact fun _ _ _ h => h | exact fun _ _ _ h => nomatch h.1) (Or.inl ⟨by rfl, fun w_ hw_ => by go_simp⟩) hz ?_
      try simp only [Act.put, List.setIfInBounds_toArray, List.set_cons_zero, List.set_cons_succ, List.getElem_toArray, List.getElem_cons_succ, List.getElem_cons_zero]
      refine late_take (i := 6) (v := .int .u64 (k : Int)) [7, 10] rfl (by kernel_rfl) (by kernel_rfl) (by kernel_rfl) (by kernel_rfl) (by first | exact fun _ _ _ h => h | exact fun _ _ _ h => nomatch h.1) (Or.inl ⟨by rfl, fun w_ hw_ => by go_simp; exact wrapU k (by omega)⟩) hz ?_
      try simp only [Act.put, List.setIfInBounds_toArray, List.set_cons_zero, List.set_cons_succ, List.getElem_toArray, List.getElem_cons_succ, List.getElem_cons_zero]
      refine late_take (i := 7) (v := .int .u64 ((s.rd : Int) + (k : Int))) [10] rfl (by kernel_rfl) (by kernel_rfl) (by kernel_rfl) (by kernel_rfl) (by first | exact fun _ _ _ h => h | exact fun _ _ _ h => nomatch h.1) (Or.inl ⟨by rfl, fun w_ hw_ => by go_simp; exact wrapU (s.rd + k) (by omega)⟩) hz ?_
      try simp only [Act.put, List.setIfInBounds_toArray, List.set_cons_zero, List.set_cons_succ, List.getElem_toArray, List.getElem_cons_succ, List.getElem_cons_zero]
      refine late_take (i := 8) (v := .pointer (some ⟨g, 0, none⟩)) [9, 10] rfl (by kernel_rfl) (by kernel_rfl) (by kernel_rfl) (by kernel_rfl) (by first | exact fun _ _ _ h => h | exact fun _ _ _ h => nomatch h.1) (Or.inl ⟨by rfl, fun w_ hw_ => by go_simp⟩) hz ?_
      try simp only [Act.put, List.setIfInBounds_toArray, List.set_cons_zero, List.set_cons_succ, List.getElem_toArray, List.getElem_cons_succ, List.getElem_cons_zero]
      refine late_take (i := 9) (v := .pointer (some ⟨g, 2, none⟩)) [10] rfl (by kernel_rfl) (by kernel_rfl) (by kernel_rfl) (by kernel_rfl) (by first | exact fun _ _ _ h => h | exact fun _ _ _ h => nomatch h.1) (Or.inl ⟨by rfl, fun w_ hw_ => by go_simp⟩) hz ?_
      try simp only [Act.put, List.setIfInBounds_toArray, List.set_cons_zero, List.set_cons_succ, List.getElem_toArray, List.getElem_cons_succ, List.getElem_cons_zero]
      refine late_last (by kernel_rfl) rfl (by kernel_rfl) (fun K hK => ?_)
      rw [if_pos (by rfl)]
      try simp only [List.getElem_toArray, List.getElem_cons_succ, List.getElem_cons_zero]
      have c := (HJB.out.row.chg hz (fun h => h)).cell 2
      have z := (HJB.out.row.chg hz (fun h => h)).frozen 2
      simp only [cellsB, List.getElem?_cons_zero, List.getElem?_cons_succ] at c
      go_simp
      refine hK.out _ _ ?_
      clear hK K
      exact ⟨rfl, rfl, hwz ▸ rfl⟩
    case imp =>
    rintro e a wt ⟨rfl, rfl, hwt⟩
    obtain ⟨t1, t2, t3, t4, t5⟩ := chg_rd HJB.out HJ.out.chg HJ.out.dat HJO.out hne.2.2.1 hwt
    have cd := t3.cell 0
    simp only [List.getElem?_cons_zero] at cd
    have hK2 : wt.heap[D]? = some (.deferred (some [])) := (t5.block D (Array.getElem?_eq_some_iff.1 hK).1 (by omega)).trans hK
    have HT := Lib.hid (And.intro t1 (And.intro t2 t4))
    clear t1 t2 t3 t4 t5 hwt HJ HJO HJB
    gi_wp2
    have hfr : ∀ r, some D = some r → w8.heap.size ≤ r ∧ ∃ o : Obj, wt.heap[r]? = some o ∧ o.isCells = false := fun r e => by cases e; exact ⟨hD, _, hK2, rfl⟩
    obtain ⟨t1, t2, t4⟩ := HT.out
    refine ⟨by simp, .inl ⟨_, _, rfl, run_takeDeferred hK2, ?_⟩⟩
    exact ⟨_, results_tmp rfl _ _ _, _, rfl, own_fromB t4 (grownBy_putObj' _ D (.deferred none)) hfr, buf_fromB t1 hml8 (grownBy_putObj' _ D (.deferred none)) hfr, chg_fromB t2 hwl8 (grownBy_putObj' _ D (.deferred none)) hfr⟩

theorem read_none (g m : Nat) (n : Int) (s : Rb) (hn : n < 1) (w : World) (hr : BufAt w g m s) :
    Calls Try.prog 11 #[.pointer (some ⟨g, 0, none⟩), .int .i64 n] w fun e w' => ∃ v, e = .returned v ∧ Owned w' w.heap.size v (bytesB s.B s.rd 0) ∧ BufAt w' g m (readS s 0) ∧ Chg (of2 g m) w w' := by
  have HC := Lib.hid (((Chg.refl none_ w).alloc (.cells #[.pointer (some ⟨g, 0, none⟩)] 25)).alloc (.cells #[.int .i64 n] 3))
  have HB := Lib.hid (hr.chg HC.out (fun h => h) (fun h => h))
  clear hr
  go_enter Try.func11, Try.ntmps11
  go_wp2
  go_ret
  exact ⟨_, rfl, Owned.nil _ _, HB.out, HC.out.mono (fun _ _ h => h.elim)⟩

/-- Read: at most so many bytes. -/
def readK (s : Rb) (n : Int) : Nat := min n.toNat (s.gap - s.rd)
theorem read_any (g m : Nat) (n : Int) (s : Rb) (hs : s.Ok) (w : World) (hr : BufAt w g m s) :
    Calls Try.prog 11 #[.pointer (some ⟨g, 0, none⟩), .int .i64 n] w fun e w' => ∃ v, e = .returned v ∧ Owned w' w.heap.size v (bytesB s.B s.rd (readK s n)) ∧ BufAt w' g m (readS s (readK s n)) ∧ Chg (of2 g m) w w' := by
  by_cases hn : n < 1
  · have : readK s n = 0 := by unfold readK; rw [show n.toNat = 0 by omega]; exact Nat.zero_min _
    rw [this]
    exact read_none g m n s hn w hr
  · obtain ⟨j, rfl⟩ : ∃ j : Nat, n = (j : Int) := ⟨n.toNat, by omega⟩
    exact read_some g m j (readK s (j : Int)) s hs (by omega) (by unfold readK; rw [Int.toNat_natCast]) w hr
theorem readK_le (s : Rb) (n : Int) : readK s n ≤ s.gap - s.rd := Nat.min_le_right _ _
end Go.Proofs.Ytbmhoijdbhokaaa
