/- Layer 6 (hframe), plain: what is put is read again; what is packed is unpacked. -/
import Derived.Test.YtcdnjeojgjakdaaDoorV6Fd
namespace Go.Proofs.YtcdnjeojgjakdaaDoor
open Go.RowKit

theorem rdInt_enc (n : Nat) (hn : n < 4611686018427387904) (l : List Nat) : rdInt (encI n ++ l, 0) = (n, (l, 0)) := by
  obtain ⟨h1, h2, h3⟩ := wideB_put n hn
  obtain ⟨f, r, e, _, _, h6, h7⟩ := back_math n (szN n) h2 h3 l
  unfold encI
  rw [h1, e]
  unfold rdInt
  simp only [ne_eq, not_true_eq_false, if_false]
  rw [if_pos (by rw [h6]; simp)]
  rw [h6, List.take_left, List.drop_left, h7]
theorem rdBytes_app (n : Nat) (l m : List Nat) (h : l.length = n) : rdBytes n (l ++ m, 0) = (l, (m, 0)) := by
  subst h
  unfold rdBytes
  simp only [ne_eq, not_true_eq_false, if_false]
  rw [if_pos (by simp), List.take_left, List.drop_left]
theorem encI_small (n : Nat) (h : n < 64) : encI n = [n] := by
  unfold encI
  rw [szN_1 h]
  have e : wideB n ((1 : Nat) : Int) = be n 1 := by unfold wideB; rw [if_pos ⟨by omega, by rw [show ((1 : Nat) : Int).toNat = 1 from rfl, gr_1]; omega⟩]; rfl
  rw [e]
  unfold be lg
  simp [arr, Nat.mod_eq_of_lt (show n < 256 by omega)]
theorem encI_pos (n : Nat) (hn : n < 4611686018427387904) : encI n ≠ [] := by
  intro h
  have := rdInt_enc n hn []
  rw [h] at this
  simp [rdInt] at this
theorem encI_len8 (n : Nat) : (encI n).length ≤ 8 := wideB_len n
theorem encI_lt (n : Nat) : ∀ x ∈ encI n, x < 256 := wideB_lt n

theorem kkM_some {n : Nat} {k : KK} (h : kkM n = some k) : (n = 0 ∧ k = .data) ∨ (n = 1 ∧ k = .data) ∨ (n = 3 ∧ k = .id) ∨ (n = 4 ∧ k = .sets) ∨ (n = 7 ∧ k = .id) ∨ (n = 13 ∧ k = .id) := by
  unfold kkM kkL at h
  simp only [Option.map_eq_some_iff] at h
  obtain ⟨x, hx, rfl⟩ := h
  have h1 := List.find?_some hx
  have h2 := List.mem_of_find?_eq_some hx
  have h3 : x.1 = n := by simpa using h1
  subst h3
  simp only [List.mem_cons, List.not_mem_nil, or_false] at h2
  rcases h2 with rfl | rfl | rfl | rfl | rfl | rfl <;> simp
theorem kkM_none {n : Nat} (h : n ≠ 0 ∧ n ≠ 1 ∧ n ≠ 3 ∧ n ≠ 4 ∧ n ≠ 7 ∧ n ≠ 13) : kkM n = none := by
  cases hk : kkM n with
  | none => rfl
  | some k => have := kkM_some hk; omega

/-! A frame's parts. -/
theorem take16 (a b c : List Nat) (ha : a.length ≤ 8) (hb : b.length ≤ 8) : (a ++ (b ++ c)).take 16 = a ++ (b ++ c.take (16 - a.length - b.length)) := by
  rw [List.take_append, List.take_append, List.take_of_length_le (show a.length ≤ 16 by omega), List.take_of_length_le (show b.length ≤ 16 - a.length by omega)]
theorem split_put (n m : Nat) (own more : List Nat) (hn : n < 4611686018427387904) (hm : m < 4611686018427387904) (hf : forbN n = false) (ho : own.length = m) :
    splitM (encI n ++ (encI m ++ (own ++ more))) = (n, own, (encI n).length + (encI m).length + m, 0) := by
  have h1 := encI_len8 n
  have h2 := encI_len8 m
  unfold splitM
  rw [take16 _ _ _ h1 h2, rdInt_enc n hn]
  simp only [hf, Bool.false_eq_true, if_false]
  rw [rdInt_enc m hm]
  simp only
  have e1 : (encI n ++ (encI m ++ List.take (16 - (encI n).length - (encI m).length) (own ++ more))).length - (List.take (16 - (encI n).length - (encI m).length) (own ++ more)).length = (encI n).length + (encI m).length := by
    simp only [List.length_append]; omega
  rw [e1]
  have e2 : ¬ ((encI n ++ (encI m ++ (own ++ more))).length - ((encI n).length + (encI m).length) < m) := by
    simp only [List.length_append]; omega
  rw [if_neg e2]
  simp only [ne_eq, not_true_eq_false, if_false]
  rw [← List.append_assoc, ← List.length_append, List.drop_left, ← ho, List.take_left]
theorem split_cut (n m : Nat) (own : List Nat) (hn : n < 4611686018427387904) (hm : m < 4611686018427387904) (hf : forbN n = false) (ho : own.length < m) :
    splitM (encI n ++ (encI m ++ own)) = (0, [], 0, 2) := by
  have h1 := encI_len8 n
  have h2 := encI_len8 m
  unfold splitM
  rw [take16 _ _ _ h1 h2, rdInt_enc n hn]
  simp only [hf, Bool.false_eq_true, if_false]
  rw [rdInt_enc m hm]
  simp only
  have e1 : (encI n ++ (encI m ++ List.take (16 - (encI n).length - (encI m).length) own)).length - (List.take (16 - (encI n).length - (encI m).length) own).length = (encI n).length + (encI m).length := by
    simp only [List.length_append]; omega
  rw [e1]
  have e2 : (encI n ++ (encI m ++ own)).length - ((encI n).length + (encI m).length) < m := by
    simp only [List.length_append]; omega
  rw [if_pos e2]
  simp [failSt]
theorem split_one (n : Nat) (hn : n < 4611686018427387904) (hf : forbN n = false) : splitM (encI n) = (0, [], 0, 2) := by
  have h1 := encI_len8 n
  have h2 := rdInt_enc n hn []
  rw [List.append_nil] at h2
  unfold splitM
  rw [List.take_of_length_le (by omega), h2]
  simp only [hf, Bool.false_eq_true, if_false]
  rw [show rdInt ([], 0) = (0, ([], 2)) from rfl]
  simp

/-! Settings. -/
theorem takeS_back (l : List (Nat × Nat)) (hl : ∀ x ∈ l, x.1 < 4611686018427387904 ∧ x.2 < 4611686018427387904) : ∀ (n : Nat) (acc : List (Nat × Nat)), l.length ≤ n → takeS n acc (setsE l, 0) = (acc ++ l, ([], 0)) := by
  induction l with
  | nil => intro n acc _; cases n <;> simp [takeS, setsE]
  | cons x l ih =>
    intro n acc hn
    cases n with
    | zero => simp at hn
    | succ n =>
      have hx := hl x (by simp)
      have e : setsE (x :: l) = encI x.1 ++ (encI x.2 ++ setsE l) := by simp [setsE, List.append_assoc]
      rw [e]
      unfold takeS
      rw [if_neg (by simp [encI_pos x.1 hx.1]), rdInt_enc x.1 hx.1]
      simp only
      rw [rdInt_enc x.2 hx.2]
      simp only
      rw [ih (fun y hy => hl y (by simp [hy])) n _ (by simpa using hn)]
      simp
theorem setsE_len (l : List (Nat × Nat)) : (setsE l).length ≤ 16 * l.length := by
  induction l with
  | nil => simp [setsE]
  | cons x l ih =>
    have h1 := encI_len8 x.1
    have h2 := encI_len8 x.2
    have e : setsE (x :: l) = encI x.1 ++ (encI x.2 ++ setsE l) := by simp [setsE, List.append_assoc]
    rw [e]
    simp only [List.length_append, List.length_cons]
    omega
theorem setsE_lt (l : List (Nat × Nat)) : ∀ x ∈ setsE l, x < 256 := by
  intro x hx
  simp only [setsE, List.mem_flatMap, List.mem_append] at hx
  obtain ⟨y, _, h | h⟩ := hx
  · exact encI_lt _ x h
  · exact encI_lt _ x h
theorem sets_le {l : List (Nat × Nat)} (h : setsB l = true) : l.length ≤ 16 ∧ ∀ x ∈ l, x.1 < 4611686018427387904 ∧ x.2 < 4611686018427387904 := by
  unfold setsB at h
  rw [decide_eq_true_eq] at h
  refine ⟨h.1, fun x hx => ?_⟩
  obtain ⟨i, hi, rfl⟩ := List.mem_iff_getElem.1 hx
  have := h.2 i hi
  unfold badAt at this
  simp only [List.getD_eq_getElem?_getD, List.getElem?_eq_getElem hi, Option.getD_some, Bool.or_eq_false_iff, decide_eq_false_iff_not] at this
  omega

/-! What is put. -/
theorem own_len {k : KK} {f : Hf} (h : hasK k f = true) : (ownK k f).length ≤ 1000 := by
  cases k
  · simp only [hasK, decide_eq_true_eq] at h; exact h.1
  · have := encI_len8 f.id; show (encI f.id).length ≤ 1000; omega
  · simp only [hasK, Bool.and_eq_true] at h
    have h1 := (sets_le h.1).1
    have h2 := setsE_len f.sets
    show (setsE f.sets).length ≤ 1000
    omega
theorem own_lt {k : KK} {f : Hf} (o : f.Ok) : ∀ x ∈ ownK k f, x < 256 := by
  cases k
  · exact o.data
  · exact encI_lt _
  · exact setsE_lt _
theorem putH_yes {k : KK} {f : Hf} (hk : kkM (keyM f.kind) = some k) (h : hasK k f = true) : putH f = encI (keyM f.kind) ++ (encI (ownK k f).length ++ ownK k f) := by
  unfold putH; rw [hk]; simp only [h, if_true]
theorem putH_no {f : Hf} (h : rightH f = false) : putH f = [] := by
  unfold rightH at h
  unfold putH
  cases hk : kkM (keyM f.kind) with
  | none => rfl
  | some k => rw [hk] at h; simp only at h; simp only [h, Bool.false_eq_true, if_false]
theorem putH_len (f : Hf) : (putH f).length ≤ 1016 := by
  cases h : rightH f
  · rw [putH_no h]; simp
  · unfold rightH at h
    cases hk : kkM (keyM f.kind) with
    | none => rw [hk] at h; cases h
    | some k =>
      rw [hk] at h
      rw [putH_yes hk h]
      have h1 := own_len h
      have h2 := encI_len8 (keyM f.kind)
      have h3 := encI_len8 (ownK k f).length
      simp only [List.length_append]; omega
theorem putH_lt (f : Hf) (o : f.Ok) : ∀ x ∈ putH f, x < 256 := by
  cases h : rightH f
  · rw [putH_no h]; simp
  · unfold rightH at h
    cases hk : kkM (keyM f.kind) with
    | none => rw [hk] at h; cases h
    | some k =>
      rw [hk] at h
      rw [putH_yes hk h]
      intro x hx
      simp only [List.mem_append] at hx
      rcases hx with h | h | h
      · exact encI_lt _ x h
      · exact encI_lt _ x h
      · exact own_lt o x h
theorem key_kind {f : Hf} {k : KK} (o : f.Ok) (hk : kkM (keyM f.kind) = some k) : ((keyM f.kind : Nat) : Int) = f.kind ∧ keyM f.kind ≤ 13 ∧ forbN (keyM f.kind) = false := by
  have h := kkM_some hk
  have h1 : keyM f.kind ≤ 13 := by omega
  refine ⟨?_, h1, ?_⟩
  · have := o.k0; have := o.k1; unfold keyM at h1 ⊢; omega
  · unfold forbN; rw [decide_eq_false_iff_not]; omega
theorem take_own {k : KK} {f : Hf} (h : hasK k f = true) : takeK k (ownK k f) { kind := f.kind } = (f, true) := by
  obtain ⟨kd, id, ss, d⟩ := f
  cases k
  · simp only [hasK, decide_eq_true_eq] at h
    obtain ⟨_, rfl, h2⟩ := h
    obtain rfl := List.eq_nil_of_length_eq_zero h2
    rfl
  · simp only [hasK, decide_eq_true_eq] at h
    obtain ⟨h0, h1, h2⟩ := h
    obtain rfl := List.eq_nil_of_length_eq_zero h1
    obtain rfl := List.eq_nil_of_length_eq_zero h2
    have := rdInt_enc id (by omega) []
    rw [List.append_nil] at this
    simp only [takeK, ownK, this]
    rfl
  · simp only [hasK, Bool.and_eq_true, decide_eq_true_eq] at h
    obtain ⟨h0, rfl, h2⟩ := h
    obtain rfl := List.eq_nil_of_length_eq_zero h2
    have hs := sets_le h0
    have := takeS_back ss hs.2 17 [] (by omega)
    simp only [takeK, ownK, this]
    rfl
theorem next_put (f : Hf) (o : f.Ok) (h : rightH f = true) (more : List Nat) : nextH (putH f ++ more) = (f, (putH f).length, 0) := by
  unfold rightH at h
  cases hk : kkM (keyM f.kind) with
  | none => rw [hk] at h; cases h
  | some k =>
    rw [hk] at h
    simp only at h
    obtain ⟨e1, e2, e3⟩ := key_kind o hk
    have h1 := own_len h
    rw [putH_yes hk h]
    unfold nextH
    rw [show encI (keyM f.kind) ++ (encI (ownK k f).length ++ ownK k f) ++ more = encI (keyM f.kind) ++ (encI (ownK k f).length ++ (ownK k f ++ more)) from by simp only [List.append_assoc]]
    rw [split_put (keyM f.kind) (ownK k f).length (ownK k f) more (by omega) (by omega) e3 rfl]
    simp only [ne_eq, not_true_eq_false, if_false, hk, e1, take_own h, h, Bool.and_self, if_true, List.length_append]
    simp only [Nat.add_assoc]
theorem next_cut (f : Hf) (o : f.Ok) (h : rightH f = true) : nextH ((putH f).take ((putH f).length - 1)) = ({}, 0, 2) := by
  unfold rightH at h
  cases hk : kkM (keyM f.kind) with
  | none => rw [hk] at h; cases h
  | some k =>
    rw [hk] at h
    simp only at h
    obtain ⟨e1, e2, e3⟩ := key_kind o hk
    have h1 := own_len h
    rw [putH_yes hk h]
    unfold nextH
    generalize ownK k f = own at *
    generalize keyM f.kind = n at *
    have hs : splitM ((encI n ++ (encI own.length ++ own)).take ((encI n ++ (encI own.length ++ own)).length - 1)) = (0, [], 0, 2) := by
      rcases List.eq_nil_or_concat own with rfl | ⟨r, x, rfl⟩
      · rw [show ([] : List Nat).length = 0 from rfl, encI_small 0 (by omega)]
        have hl : (encI n ++ ([0] ++ [])).length - 1 = (encI n).length := by simp
        rw [hl, List.take_left]
        exact split_one n (by omega) e3
      · simp only [List.concat_eq_append] at *
        have : (encI n ++ (encI (r ++ [x]).length ++ (r ++ [x]))).take ((encI n ++ (encI (r ++ [x]).length ++ (r ++ [x]))).length - 1) = encI n ++ (encI (r ++ [x]).length ++ r) := by
          rw [show encI n ++ (encI (r ++ [x]).length ++ (r ++ [x])) = (encI n ++ (encI (r ++ [x]).length ++ r)) ++ [x] from by simp only [List.append_assoc]]
          rw [List.length_append (bs := [x])]
          exact List.take_left
        rw [this]
        exact split_cut n _ r (by omega) (by omega) e3 (by simp)
    rw [hs]
    simp
theorem next_pass (k : Nat) (b : List Nat) (hk : 14 ≤ k) (hk2 : k < 64) (hb : b.length < 64) (more : List Nat) : nextH (k :: b.length :: (b ++ more)) = ({}, b.length + 2, 6) := by
  have hf : forbN k = false := by unfold forbN; rw [decide_eq_false_iff_not]; omega
  have := split_put k b.length b more (by omega) (by omega) hf rfl
  rw [encI_small k hk2, encI_small _ hb] at this
  unfold nextH
  rw [show k :: b.length :: (b ++ more) = [k] ++ ([b.length] ++ (b ++ more)) from rfl, this]
  simp only [ne_eq, not_true_eq_false, if_false, kkM_none (show k ≠ 0 ∧ k ≠ 1 ∧ k ≠ 3 ∧ k ≠ 4 ∧ k ≠ 7 ∧ k ≠ 13 by omega)]
  simp only [List.length_cons, List.length_nil]
  rw [show 0 + 1 + (0 + 1) + b.length = b.length + 2 from by omega]

/-! Fields. -/
theorem read_chunk (x : Fld) (hx : x.1.size < 4611686018427387904 ∧ x.2.size < 4611686018427387904) (l : List Nat) : readF (chunkF x ++ l, 0) = (x, (l, 0)) := by
  have e : chunkF x ++ l = 32 :: (encI x.1.size ++ (bs x.1 ++ (encI x.2.size ++ (bs x.2 ++ l)))) := by simp [chunkF, textE, List.append_assoc]
  rw [e]
  unfold readF
  rw [show ∀ m : List Nat, rdByte (32 :: m, 0) = (32, (m, 0)) from fun m => rfl]
  simp only [ne_eq, not_true_eq_false, if_false]
  rw [rdInt_enc _ hx.1]
  simp only
  rw [rdBytes_app _ _ _ (bs_len x.1)]
  simp only
  rw [rdInt_enc _ hx.2]
  simp only
  rw [rdBytes_app _ _ _ (bs_len x.2)]
  simp only [sb_bs]
theorem loop_pack (l : List Fld) (hl : ∀ x ∈ l, x.1.size < 4611686018427387904 ∧ x.2.size < 4611686018427387904) : ∀ acc, loopU acc (packE l, 0) = (l.foldl stepU acc, ([], 0)) := by
  induction l with
  | nil => intro acc; unfold loopU; simp [packE]
  | cons x l ih =>
    intro acc
    have e : packE (x :: l) = chunkF x ++ packE l := by simp [packE]
    rw [e]
    unfold loopU
    rw [dif_neg (by simp [chunkF]), read_chunk x (hl x (by simp))]
    simp only [List.foldl_cons]
    exact ih (fun y hy => hl y (by simp [hy])) _
theorem foldl_step (l : List Fld) : ∀ acc : List Fld, acc.length ≤ 33 → l.foldl stepU acc = (acc ++ l).take 33 := by
  induction l with
  | nil => intro acc h; rw [List.append_nil, List.take_of_length_le h]; rfl
  | cons x l ih =>
    intro acc h
    rw [List.foldl_cons]
    by_cases h2 : acc.length ≤ 32
    · have e : stepU acc x = acc ++ [x] := if_pos h2
      rw [e, ih _ (by simp; omega)]
      simp
    · have e : stepU acc x = acc := if_neg h2
      rw [e, ih _ h]
      have h3 : acc.length = 33 := by omega
      rw [← h3, List.take_left, List.take_left]
theorem wrong_le {x : Fld} (h : wrongF x = false) : x.1.size ≤ 60 ∧ x.2.size ≤ 200 := by
  unfold wrongF at h
  simp only [Bool.or_eq_false_iff, decide_eq_false_iff_not] at h
  omega
theorem unpack_pack (l : List Fld) (hl : ∀ x ∈ l, wrongF x = false) : unpackH (packE l) = if l.length ≤ 32 then (l, 0) else ([], 3) := by
  have h1 := loop_pack l (fun x hx => by have := wrong_le (hl x hx); omega) []
  rw [foldl_step l [] (by simp)] at h1
  unfold unpackH
  rw [h1]
  simp only [List.nil_append]
  by_cases h : l.length ≤ 32
  · rw [List.take_of_length_le (by omega)]
    have hb : fieldsB l = true := by
      unfold fieldsB
      rw [decide_eq_true h, Bool.true_and, Bool.not_eq_true', List.any_eq_false]
      intro x hx; rw [hl x hx]; decide
    rw [hb, if_pos h]
    simp
  · have hb : fieldsB (l.take 33) = false := by
      unfold fieldsB
      rw [decide_eq_false (by rw [List.length_take]; omega)]; rfl
    rw [hb, if_neg h]
    simp [failSt]
theorem chunkF_len {x : Fld} (h : wrongF x = false) : (chunkF x).length ≤ 277 := by
  have h1 := wrong_le h
  have h2 := encI_len8 x.1.size
  have h3 := encI_len8 x.2.size
  simp only [chunkF, textE, List.length_cons, List.length_append, bs_len]
  omega
theorem packE_len (l : List Fld) (hl : ∀ x ∈ l, wrongF x = false) : (packE l).length ≤ 277 * l.length := by
  induction l with
  | nil => simp [packE]
  | cons x l ih =>
    have h1 := chunkF_len (hl x (by simp))
    have h2 := ih (fun y hy => hl y (by simp [hy]))
    have e : packE (x :: l) = chunkF x ++ packE l := by simp [packE]
    rw [e]
    simp only [List.length_append, List.length_cons]
    omega
theorem textE_lt (s : ByteArray) : ∀ x ∈ textE s, x < 256 := by
  intro x hx
  simp only [textE, List.mem_append] at hx
  rcases hx with h | h
  · exact encI_lt _ x h
  · exact bs_lt s x h
theorem packE_lt (l : List Fld) : ∀ x ∈ packE l, x < 256 := by
  intro x hx
  simp only [packE, List.mem_flatMap, chunkF, List.mem_cons, List.mem_append] at hx
  obtain ⟨y, _, rfl | h | h⟩ := hx
  · omega
  · exact textE_lt _ x h
  · exact textE_lt _ x h
theorem fields_all {l : List Fld} (h : fieldsB l = true) : l.length ≤ 32 ∧ ∀ x ∈ l, wrongF x = false := by
  unfold fieldsB at h
  simp only [Bool.and_eq_true, decide_eq_true_eq, Bool.not_eq_true', List.any_eq_false] at h
  exact ⟨h.1, fun x hx => by have := h.2 x hx; simpa using this⟩
end Go.Proofs.YtcdnjeojgjakdaaDoor
