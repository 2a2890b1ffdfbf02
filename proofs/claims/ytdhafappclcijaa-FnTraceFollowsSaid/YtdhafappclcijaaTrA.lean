/-
  Plain mathematics of traces: what an order is, a breadth-first search for a shortest cycle, what TraceOrder, TraceCycle and TraceFollows answer, and what follows from it. No program, no condition.
-/
namespace Go.Proofs.Ytdhafappclcijaa
set_option linter.unusedVariables false

theorem nodup_len {l m : List Int} (hn : l.Nodup) (hs : ∀ x ∈ l, x ∈ m) : l.length ≤ m.length := by
  induction l generalizing m with
  | nil => simp
  | cons x l ih =>
    have hx : x ∈ m := hs x (by simp)
    obtain ⟨hxl, hn⟩ := List.nodup_cons.1 hn
    have := ih (m := m.erase x) hn (fun y hy => (List.mem_erase_of_ne (fun e : y = x => hxl (by rw [← e]; exact hy))).2 (hs y (by simp [hy])))
    rw [List.length_erase_of_mem hx] at this
    have h1 : 0 < m.length := List.length_pos_of_mem hx
    simp; omega
/-- as many different ones as there are: all of them -/
theorem nodup_full {l m : List Int} (hn : l.Nodup) (hs : ∀ x ∈ l, x ∈ m) (hl : m.length ≤ l.length) : ∀ x ∈ m, x ∈ l := by
  intro x hx
  by_cases h : x ∈ l
  · exact h
  · have := nodup_len (l := x :: l) (m := m) (List.nodup_cons.2 ⟨h, hn⟩) (fun y hy => by
      rcases List.mem_cons.1 hy with rfl | hy
      · exact hx
      · exact hs y hy)
    simp at this; omega

section
variable (nx : Int → Int → Bool) (al : List Int)
/-- may the message come next? -/
def frB (out : List Int) (m : Int) : Bool := !out.contains m && al.all fun k => out.contains k || !nx k m

def stO (out : List Int) : Option Int := al.find? (frB nx al out)

def ordF : Nat → List Int → List Int
  | 0, out => out
  | n + 1, out => match stO nx al out with
    | some m => ordF n (out ++ [m])
    | none => out
/-- the order, as far as it goes -/
def ordA : List Int := ordF nx al al.length []

inductive OrdRun : List Int → Prop
  | nil : OrdRun []
  | step {out : List Int} {m : Int} (h : OrdRun out) (hs : stO nx al out = some m) : OrdRun (out ++ [m])
end
section
variable {nx : Int → Int → Bool} {al : List Int}

theorem frB_true {out : List Int} {m : Int} : frB nx al out m = true ↔ (m ∉ out ∧ ∀ k ∈ al, nx k m = true → k ∈ out) := by
  unfold frB
  simp only [Bool.and_eq_true, Bool.not_eq_true', List.contains_eq_mem, decide_eq_false_iff_not, List.all_eq_true, Bool.or_eq_true, decide_eq_true_eq]
  refine ⟨fun h => ⟨h.1, fun k hk hn => ?_⟩, fun h => ⟨h.1, fun k hk => ?_⟩⟩
  · rcases h.2 k hk with h2 | h2
    · exact h2
    · rw [hn] at h2; cases h2
  · cases hn : nx k m with
    | false => exact .inr rfl
    | true => exact .inl (h.2 k hk hn)
/-- each one stands behind all that are told right ahead of it -/
def Topo (nx : Int → Int → Bool) (al out : List Int) : Prop := ∀ a b, nx a b = true → a ∈ al → b ∈ out → a ∈ out ∧ out.idxOf a < out.idxOf b

theorem OrdRun.facts {out : List Int} (h : OrdRun nx al out) : out.Nodup ∧ (∀ x ∈ out, x ∈ al) ∧ Topo nx al out := by
  induction h with
  | nil => exact ⟨List.nodup_nil, (fun x h => by cases h), fun a b _ _ h => by cases h⟩
  | @step out m h hs ih =>
    obtain ⟨h1, h2, h3⟩ := ih
    have hf := frB_true.1 (List.find?_some hs)
    have hm := List.mem_of_find?_eq_some hs
    refine ⟨?_, ?_, ?_⟩
    · rw [List.nodup_append]
      refine ⟨h1, by simp, fun a ha b hb => ?_⟩
      simp at hb; subst hb
      exact fun e => hf.1 (e ▸ ha)
    · intro x hx
      rcases List.mem_append.1 hx with hx | hx
      · exact h2 x hx
      · simp at hx; subst hx; exact hm
    · intro a b hn ha hb
      rcases List.mem_append.1 hb with hb | hb
      · obtain ⟨k1, k2⟩ := h3 a b hn ha hb
        refine ⟨List.mem_append_left _ k1, ?_⟩
        rw [List.idxOf_append, List.idxOf_append, if_pos k1, if_pos hb]; exact k2
      · simp at hb; subst hb
        have k1 := hf.2 a ha hn
        refine ⟨List.mem_append_left _ k1, ?_⟩
        rw [List.idxOf_append, List.idxOf_append, if_pos k1, if_neg hf.1]
        have := List.idxOf_lt_length_iff.2 k1
        omega

theorem ordF_end {out : List Int} (h : stO nx al out = none) (j : Nat) : ordF nx al j out = out := by
  cases j with
  | zero => rfl
  | succ j => simp [ordF, h]

theorem OrdRun.split {out : List Int} (h : OrdRun nx al out) : ∀ j, ordF nx al (out.length + j) [] = ordF nx al j out := by
  induction h with
  | nil => intro j; simp
  | @step out m h hs ih =>
    intro j
    rw [List.length_append, List.length_singleton, show out.length + 1 + j = out.length + (j + 1) by omega, ih (j + 1)]
    simp [ordF, hs]
/-- the one end of the run -/
theorem OrdRun.last {out : List Int} (h : OrdRun nx al out) (hs : stO nx al out = none) : out = ordA nx al := by
  have hl := nodup_len h.facts.1 h.facts.2.1
  have := h.split (al.length - out.length)
  rw [show out.length + (al.length - out.length) = al.length by omega, ordF_end hs] at this
  exact this.symm

theorem ordF_run : ∀ (n : Nat) {out : List Int}, OrdRun nx al out → OrdRun nx al (ordF nx al n out) ∧ (al.length ≤ out.length + n → stO nx al (ordF nx al n out) = none)
  | 0, out, h => by
    refine ⟨h, fun hl => ?_⟩
    show stO nx al out = none
    cases hs : stO nx al out with
    | none => rfl
    | some m =>
      have h2 := OrdRun.step h hs
      have := nodup_len h2.facts.1 h2.facts.2.1
      rw [List.length_append] at this
      simp at this; omega
  | n + 1, out, h => by
    unfold ordF
    cases hs : stO nx al out with
    | none => exact ⟨h, fun _ => hs⟩
    | some m =>
      have := ordF_run n (OrdRun.step h hs)
      refine ⟨this.1, fun hl => this.2 ?_⟩
      rw [List.length_append]; simp; omega

theorem ordA_run : OrdRun nx al (ordA nx al) := (ordF_run _ .nil).1

theorem ordA_none : stO nx al (ordA nx al) = none := (ordF_run _ .nil).2 (by simp)

/-! ### walks -/
def Wlk (nx : Int → Int → Bool) : Nat → Int → Int → Prop
  | 0, a, b => a = b
  | n + 1, a, b => ∃ c, nx a c = true ∧ Wlk nx n c b

theorem Wlk.snoc : ∀ {n : Nat} {a b c : Int}, Wlk nx n a b → nx b c = true → Wlk nx (n + 1) a c
  | 0, a, b, c, h, k => ⟨c, by rw [show a = b from h]; exact k, rfl⟩
  | n + 1, a, b, c, ⟨d, h1, h2⟩, k => ⟨d, h1, h2.snoc k⟩

theorem Wlk.trans : ∀ {n m : Nat} {a b c : Int}, Wlk nx n a b → Wlk nx m b c → Wlk nx (n + m) a c
  | 0, m, a, b, c, h, k => by rw [show a = b from h, Nat.zero_add]; exact k
  | n + 1, m, a, b, c, ⟨d, h1, h2⟩, k => by rw [show n + 1 + m = (n + m) + 1 by omega]; exact ⟨d, h1, h2.trans k⟩

theorem Wlk.mono {ny : Int → Int → Bool} (h : ∀ a b, nx a b = true → ny a b = true) : ∀ {n : Nat} {a b : Int}, Wlk nx n a b → Wlk ny n a b
  | 0, _, _, k => k
  | n + 1, _, _, ⟨d, h1, h2⟩ => ⟨d, h _ _ h1, h2.mono h⟩
/-- an order of all forbids closed walks -/
theorem topo_walk {out : List Int} (ht : Topo nx al out) (hin : ∀ a b, nx a b = true → a ∈ al) (hall : ∀ x ∈ al, x ∈ out) :
    ∀ {n : Nat} {a b : Int}, Wlk nx (n + 1) a b → b ∈ out → out.idxOf a < out.idxOf b
  | 0, a, b, ⟨c, h1, h2⟩, hb => by
    have e : c = b := h2
    subst e
    exact (ht a c h1 (hin a c h1) hb).2
  | n + 1, a, b, ⟨c, h1, h2⟩, hb => by
    have hc : c ∈ out := by
      obtain ⟨d, k1, _⟩ := h2
      exact hall c (hin c d k1)
    have := topo_walk ht hin hall h2 hb
    have := (ht a c h1 (hin a c h1) hc).2
    omega
/-- steps back without an end meet again -/
theorem back_cycle {S : List Int} (h : ∀ m ∈ S, ∃ k ∈ S, nx k m = true) {m0 : Int} (h0 : m0 ∈ S) : ∃ m n, Wlk nx (n + 1) m m := by
  let g : Int → Int := fun m => if hm : m ∈ S then Classical.choose (h m hm) else m
  have hg : ∀ m ∈ S, g m ∈ S ∧ nx (g m) m = true := fun m hm => by
    have := Classical.choose_spec (h m hm)
    simp only [g, dif_pos hm]; exact this
  let f : Nat → Int := fun i => Nat.rec m0 (fun _ x => g x) i
  have hf : ∀ i, f i ∈ S := fun i => by
    induction i with
    | zero => exact h0
    | succ i ih => exact (hg _ ih).1
  have hstep : ∀ i, nx (f (i + 1)) (f i) = true := fun i => (hg _ (hf i)).2
  have hw : ∀ (d i : Nat), Wlk nx d (f (i + d)) (f i) := fun d => by
    induction d with
    | zero => intro i; rfl
    | succ d ih => intro i; exact ⟨f (i + d), hstep _, ih i⟩
  have hl : ¬ ((List.range (S.length + 1)).map f).Nodup := fun hn => by
    have := nodup_len hn (m := S) (fun x hx => by
      obtain ⟨i, _, rfl⟩ := List.mem_map.1 hx
      exact hf i)
    simp at this
    omega
  have : ∃ i j, i < j ∧ f i = f j := by
    refine Classical.byContradiction fun hc => hl ?_
    rw [List.Nodup, List.pairwise_iff_getElem]
    intro i j hi hj hij
    simp only [List.getElem_map, List.getElem_range]
    exact fun e => hc ⟨i, j, hij, e⟩
  obtain ⟨i, j, hij, e⟩ := this
  refine ⟨f i, j - i - 1, ?_⟩
  have := hw (j - i) i
  rw [show i + (j - i) = j by omega, ← e] at this
  rwa [show j - i - 1 + 1 = j - i by omega]
/-- where the order does not get to all there is a closed walk -/
theorem stuck_cycle (hlen : (ordA nx al).length < al.length) (hnd : al.Nodup) : ∃ m n, Wlk nx (n + 1) m m := by
  obtain ⟨h1, h2, h3⟩ := (ordA_run (nx := nx) (al := al)).facts
  have hn := ordA_none (nx := nx) (al := al)
  have hx : ∃ m ∈ al, m ∉ ordA nx al := by
    refine Classical.byContradiction fun hc => ?_
    have := nodup_len hnd (m := ordA nx al) (fun x hx => Classical.byContradiction fun hc2 => hc ⟨x, hx, hc2⟩)
    omega
  obtain ⟨m0, hm0, hm1⟩ := hx
  refine back_cycle (S := al.filter fun m => !(ordA nx al).contains m) (fun m hm => ?_) (m0 := m0) (by simp [hm0, hm1])
  simp only [List.mem_filter, Bool.not_eq_true', List.contains_eq_mem, decide_eq_false_iff_not] at hm
  have := List.find?_eq_none.1 hn m hm.1
  rw [frB_true] at this
  refine Classical.byContradiction fun hc => this ⟨hm.2, fun k hk hnk => ?_⟩
  refine Classical.byContradiction fun hk2 => hc ⟨k, ?_, hnk⟩
  simp [hk, hk2]
/-- the order gets to all where there is no closed walk -/
theorem ord_all (hnd : al.Nodup) (h : ¬ ∃ m n, Wlk nx (n + 1) m m) : (ordA nx al).length = al.length := by
  have := nodup_len (ordA_run (nx := nx) (al := al)).facts.1 (ordA_run (nx := nx) (al := al)).facts.2.1
  rcases Nat.lt_or_ge (ordA nx al).length al.length with h1 | h1
  · exact absurd (stuck_cycle h1 hnd) h
  · omega

theorem ord_acyclic (hlen : (ordA nx al).length = al.length) (hin : ∀ a b, nx a b = true → a ∈ al ∧ b ∈ al) : ¬ ∃ m n, Wlk nx (n + 1) m m := by
  rintro ⟨m, n, hw⟩
  obtain ⟨h1, h2, h3⟩ := (ordA_run (nx := nx) (al := al)).facts
  have hall := nodup_full h1 h2 (by omega)
  have hm : m ∈ ordA nx al := by
    obtain ⟨c, k, _⟩ := hw
    exact hall m (hin m c k).1
  have := topo_walk h3 (fun a b h => (hin a b h).1) hall hw hm
  omega
/-- a chain is its own order -/
theorem ord_chain {out : List Int} (hnd : out.Nodup) (hal : ∀ x, x ∈ al ↔ x ∈ out) (hch : ∀ (i : Nat) (a b : Int), out[i]? = some a → out[i + 1]? = some b → nx a b = true) (ht : Topo nx al out) : ordA nx al = out := by
  have hstep : ∀ k, k ≤ out.length → OrdRun nx al (out.take k) := by
    intro k
    induction k with
    | zero => intro _; simpa using OrdRun.nil
    | succ k ih =>
      intro hk
      have hk' : k < out.length := by omega
      have e : out.take (k + 1) = out.take k ++ [out[k]] := List.take_succ_eq_append_getElem hk'
      rw [e]
      refine .step (ih (by omega)) ?_
      have hidx : ∀ (i : Nat) (hi : i < out.length), out.idxOf out[i] = i := fun i hi => hnd.idxOf_getElem i hi
      have hmemtake : ∀ x, x ∈ out.take k ↔ (x ∈ out ∧ out.idxOf x < k) := fun x => by
        constructor
        · intro hx
          obtain ⟨i, hi, e⟩ := List.getElem_of_mem hx
          rw [List.length_take] at hi
          rw [List.getElem_take] at e
          subst e
          exact ⟨List.getElem_mem _, by rw [hidx]; omega⟩
        · rintro ⟨hx, hl⟩
          have h1 := List.idxOf_lt_length_iff.2 hx
          have h2 := List.getElem_idxOf h1
          rw [List.mem_iff_getElem]
          exact ⟨out.idxOf x, by rw [List.length_take]; omega, by rw [List.getElem_take]; exact h2⟩
      have huniq : ∀ m ∈ al, frB nx al (out.take k) m = true ↔ m = out[k] := by
        intro m hm
        rw [frB_true, hmemtake]
        have hmo := (hal m).1 hm
        constructor
        · rintro ⟨h1, h2⟩
          have hge : k ≤ out.idxOf m := by
            rcases Nat.lt_or_ge (out.idxOf m) k with h | h
            · exact absurd ⟨hmo, h⟩ h1
            · exact h
          have hl := List.idxOf_lt_length_iff.2 hmo
          rcases Nat.eq_or_lt_of_le hge with h | h
          · have := List.getElem_idxOf hl
            simp only [← h] at this; exact this.symm
          · exfalso
            have hp : out.idxOf m - 1 < out.length := by omega
            have hn := hch (out.idxOf m - 1) out[out.idxOf m - 1] m (List.getElem?_eq_getElem hp) (by
              rw [show out.idxOf m - 1 + 1 = out.idxOf m by omega, List.getElem?_eq_getElem hl, List.getElem_idxOf])
            have := (hmemtake _).1 (h2 _ ((hal _).2 (List.getElem_mem hp)) hn)
            rw [hidx] at this
            omega
        · rintro rfl
          refine ⟨fun h => by rw [hidx] at h; omega, fun a ha hn => ?_⟩
          have := ht a _ hn ha hmo
          rw [hidx] at this
          exact (hmemtake a).2 this
      have hex : stO nx al (out.take k) ≠ none := fun hn => by
        have := List.find?_eq_none.1 hn out[k] ((hal _).2 (List.getElem_mem hk'))
        exact this ((huniq _ ((hal _).2 (List.getElem_mem hk'))).2 rfl)
      cases hs : stO nx al (out.take k) with
      | none => exact absurd hs hex
      | some m =>
        have h1 := (huniq m (List.mem_of_find?_eq_some hs)).1 (List.find?_some hs)
        rw [h1]
  have hr := hstep out.length (Nat.le_refl _)
  rw [List.take_length] at hr
  refine (hr.last ?_).symm
  rw [stO, List.find?_eq_none]
  intro m hm
  rw [frB_true]
  exact fun h => h.1 ((hal m).1 hm)
end
/-- the order hangs on what is told and on the messages alone -/
theorem ordA_congr {nx ny : Int → Int → Bool} {al : List Int} (h : ∀ a b, nx a b = ny a b) : ordA nx al = ordA ny al := by
  have : nx = ny := funext fun a => funext fun b => h a b
  rw [this]

/-! ### a breadth-first search: entries (message, where it was reached from, how many steps) -/
abbrev Be := Int × Int × Nat
section
variable (nx : Int → Int → Bool)
/-- one message looked at from x -/
def visB (x : Int) (d : Nat) (L : List Be) (m : Int) : List Be := if nx x m && !(L.any fun e => e.1 == m) then L ++ [(m, x, d + 1)] else L

def rowB (x : Int) (d : Nat) (ms : List Int) (L : List Be) : List Be := ms.foldl (visB nx x d) L

def msg12 : List Int := (List.range 12).map fun (i : Nat) => (i : Int)
/-- where a message was reached from -/
def parB (L : List Be) (m : Int) : Int := match L.find? fun e => e.1 == m with | some e => e.2.1 | none => -1

def recB (L : List Be) : Nat → Int → List Int → List Int
  | 0, _, acc => acc
  | d + 1, y, acc => recB L d (parB L y) (y :: acc)

def bfsB (f : Int) : Nat → Nat → List Be → List Int
  | 0, _, _ => []
  | n + 1, i, L => match L[i]? with
    | none => []
    | some (x, _, d) => if nx x f then f :: recB L d x [] else bfsB f n (i + 1) (rowB nx x d msg12 L)
/-- a shortest way from a message back to itself -/
def pathB (f : Int) : List Int := bfsB nx f 13 0 [(f, -1, 0)]

def stepC (best : List Int) (m : Int) : List Int := if (pathB nx m) ≠ [] ∧ (best = [] ∨ (pathB nx m).length < best.length) then pathB nx m else best

def cycB : List Int := msg12.foldl (stepC nx) []
end
section
variable {nx : Int → Int → Bool}

theorem mem_msg12 {m : Int} : m ∈ msg12 ↔ (0 ≤ m ∧ m ≤ 11) := by
  unfold msg12
  rw [List.mem_map]
  constructor
  · rintro ⟨i, hi, rfl⟩
    have := List.mem_range.1 hi
    omega
  · rintro ⟨h1, h2⟩
    exact ⟨m.toNat, List.mem_range.2 (by omega), by omega⟩

/-- what holds of a search that has looked from the first i entries -/
structure InvB (nx : Int → Int → Bool) (f : Int) (i : Nat) (L : List Be) : Prop where
  nd : (L.map fun e => e.1).Nodup
  hd : ∃ p, L[0]? = some (f, p, 0)
  mono : L.Pairwise fun a b => a.2.2 ≤ b.2.2
  gap : ∀ a, L[i]? = some a → ∀ b ∈ L, b.2.2 ≤ a.2.2 + 1
  par : ∀ (j : Nat) (m p : Int) (d : Nat), L[j]? = some (m, p, d) → 0 < j → ∃ (j' : Nat) (q : Int) (d' : Nat), j' < i ∧ j' < j ∧ L[j']? = some (p, q, d') ∧ nx p m = true ∧ d = d' + 1
  out : ∀ (j : Nat) (m p : Int) (d : Nat), j < i → L[j]? = some (m, p, d) → ∀ m' : Int, 0 ≤ m' → m' ≤ 11 → nx m m' = true → ∃ (j' : Nat) (q : Int) (d' : Nat), L[j']? = some (m', q, d') ∧ d' ≤ d + 1
  none : ∀ (j : Nat) (m p : Int) (d : Nat), j < i → L[j]? = some (m, p, d) → nx m f = false
  le : i ≤ L.length

theorem any_fst {L : List Be} {m : Int} : (L.any fun e => e.1 == m) = true ↔ m ∈ L.map fun e => e.1 := by
  rw [List.any_eq_true, List.mem_map]
  constructor
  · rintro ⟨e, he, h⟩; exact ⟨e, he, by simpa using h⟩
  · rintro ⟨e, he, h⟩; exact ⟨e, he, by simpa using h⟩

/-- what a row adds: new messages, all reached from x, all behind the others -/
theorem rowB_facts {x : Int} {d : Nat} : ∀ (ms : List Int) (L : List Be), (L.map fun e => e.1).Nodup →
    ∃ N : List Be, rowB nx x d ms L = L ++ N ∧ ((L ++ N).map fun e => e.1).Nodup ∧ (∀ e ∈ N, e.2.1 = x ∧ e.2.2 = d + 1 ∧ nx x e.1 = true ∧ e.1 ∈ ms) ∧ ∀ m ∈ ms, nx x m = true → m ∈ (L ++ N).map fun e => e.1
  | [], L, h => ⟨[], by simp [rowB], by simpa using h, (fun e he => by cases he), fun m hm => by cases hm⟩
  | m :: ms, L, h => by
    show ∃ N, rowB nx x d ms (visB nx x d L m) = L ++ N ∧ _
    by_cases hc : nx x m = true ∧ m ∉ L.map fun e => e.1
    · have e : visB nx x d L m = L ++ [(m, x, d + 1)] := by
        unfold visB
        rw [if_pos]
        rw [Bool.and_eq_true]
        refine ⟨hc.1, ?_⟩
        cases ha : (L.any fun e => e.1 == m) with
        | false => rfl
        | true => exact absurd (any_fst.1 ha) hc.2
      have hnd : ((L ++ [(m, x, d + 1)]).map fun e => e.1).Nodup := by
        rw [List.map_append, List.nodup_append]
        refine ⟨h, by simp, fun a ha b hb => ?_⟩
        simp at hb; subst hb
        exact fun e => hc.2 (by rw [← e]; exact ha)
      obtain ⟨N, h1, h2, h3, h4⟩ := rowB_facts ms (L ++ [(m, x, d + 1)]) hnd
      refine ⟨(m, x, d + 1) :: N, by rw [e, h1]; simp, by simpa using h2, fun e he => ?_, fun k hk hn => ?_⟩
      · rcases List.mem_cons.1 he with rfl | he
        · exact ⟨rfl, rfl, hc.1, by simp⟩
        · obtain ⟨a, b, c, dd⟩ := h3 e he
          exact ⟨a, b, c, List.mem_cons_of_mem _ dd⟩
      · rcases List.mem_cons.1 hk with rfl | hk
        · simp
        · have := h4 k hk hn
          simpa using this
    · have e : visB nx x d L m = L := by
        unfold visB
        rw [if_neg]
        rw [Bool.and_eq_true]
        rintro ⟨h1, h2⟩
        refine hc ⟨h1, fun h3 => ?_⟩
        rw [any_fst.2 h3] at h2; cases h2
      obtain ⟨N, h1, h2, h3, h4⟩ := rowB_facts ms L h
      refine ⟨N, by rw [e]; exact h1, h2, fun e he => ?_, fun k hk hn => ?_⟩
      · obtain ⟨a, b, c, dd⟩ := h3 e he
        exact ⟨a, b, c, List.mem_cons_of_mem _ dd⟩
      · rcases List.mem_cons.1 hk with rfl | hk
        · have : k ∈ L.map fun e => e.1 := Classical.byContradiction fun h => hc ⟨hn, h⟩
          rw [List.map_append]; exact List.mem_append_left _ this
        · exact h4 k hk hn

theorem InvB.start (nx : Int → Int → Bool) (f : Int) : InvB nx f 0 [(f, -1, 0)] where
  nd := by simp
  hd := ⟨-1, rfl⟩
  mono := by simp
  gap := fun a ha b hb => by simp at ha hb; subst hb; simp
  par := fun j m p d hj h0 => by
    rw [List.getElem?_eq_none (by simp; omega)] at hj; cases hj
  out := fun j m p d hj => by omega
  none := fun j m p d hj => by omega
  le := by simp

theorem InvB.step {f : Int} {i : Nat} {L : List Be} {x p : Int} {d : Nat} (h : InvB nx f i L) (hi : L[i]? = some (x, p, d)) (hx : nx x f = false) : InvB nx f (i + 1) (rowB nx x d msg12 L) := by
  obtain ⟨N, h1, h2, h3, h4⟩ := rowB_facts (nx := nx) (x := x) (d := d) msg12 L h.nd
  rw [h1]
  have hil := (List.getElem?_eq_some_iff.1 hi).1
  have hold : ∀ (j : Nat) (a : Be), L[j]? = some a → (L ++ N)[j]? = some a := fun j a hj => by
    rw [List.getElem?_append_left (List.getElem?_eq_some_iff.1 hj).1]; exact hj
  have hlt : ∀ (j : Nat) (a : Be), j < L.length → (L ++ N)[j]? = some a → L[j]? = some a := fun j a hj ha => by
    rw [List.getElem?_append_left hj] at ha; exact ha
  refine ⟨h2, ?_, ?_, ?_, ?_, ?_, ?_, ?_⟩
  · obtain ⟨q, hq⟩ := h.hd
    exact ⟨q, hold _ _ hq⟩
  · rw [List.pairwise_append]
    refine ⟨h.mono, ?_, fun a ha b hb => ?_⟩
    · exact List.pairwise_of_forall_mem_list fun a ha b hb => by rw [(h3 a ha).2.1, (h3 b hb).2.1]; exact Nat.le_refl _
    · rw [(h3 b hb).2.1]
      exact h.gap _ hi a ha
  · intro a ha b hb
    -- the next entry is at least as deep as this one
    have hda : d ≤ a.2.2 := by
      rcases Nat.lt_or_ge (i + 1) L.length with hl | hl
      · have ha' := hlt _ _ hl ha
        have := List.pairwise_iff_getElem.1 h.mono i (i + 1) hil hl (by omega)
        rw [List.getElem?_eq_getElem hil] at hi
        rw [List.getElem?_eq_getElem hl] at ha'
        injection hi with hi
        injection ha' with ha'
        rw [hi, ha'] at this
        exact this
      · rw [List.getElem?_append_right hl] at ha
        rw [(h3 a (List.mem_of_getElem? ha)).2.1]; omega
    rcases List.mem_append.1 hb with hb | hb
    · have := h.gap _ hi b hb
      simp only at this
      omega
    · rw [(h3 b hb).2.1]; omega
  · intro j m q e hj h0
    rcases Nat.lt_or_ge j L.length with hl | hl
    · obtain ⟨j', q', d', a1, a2, a3, a4, a5⟩ := h.par j m q e (hlt _ _ hl hj) h0
      exact ⟨j', q', d', by omega, a2, hold _ _ a3, a4, a5⟩
    · rw [List.getElem?_append_right hl] at hj
      obtain ⟨b1, b2, b3, b4⟩ := h3 _ (List.mem_of_getElem? hj)
      simp only at b1 b2 b3
      subst b1
      exact ⟨i, p, d, by omega, by omega, hold _ _ hi, b3, b2⟩
  · intro j m q e hj hm m' k1 k2 hn
    rcases Nat.lt_or_ge j i with hl | hl
    · obtain ⟨j', q', d', a1, a2⟩ := h.out j m q e hl (hlt _ _ (by omega) hm) m' k1 k2 hn
      exact ⟨j', q', d', hold _ _ a1, a2⟩
    · have : j = i := by omega
      subst this
      have e1 := (hlt _ _ hil hm).symm.trans hi
      injection e1 with e1
      injection e1 with e1 e2
      injection e2 with e2 e3
      subst e1; subst e2; subst e3
      have hmem := h4 m' (mem_msg12.2 ⟨k1, k2⟩) hn
      obtain ⟨y, hy, rfl⟩ := List.mem_map.1 hmem
      obtain ⟨j', hj', hy'⟩ := List.getElem_of_mem hy
      refine ⟨j', y.2.1, y.2.2, by rw [List.getElem?_eq_getElem hj', hy'], ?_⟩
      rcases List.mem_append.1 hy with hy | hy
      · exact h.gap _ hi y hy
      · rw [(h3 y hy).2.1]; exact Nat.le_refl _
  · intro j m q e hj hm
    rcases Nat.lt_or_ge j i with hl | hl
    · exact h.none j m q e hl (hlt _ _ (by omega) hm)
    · have : j = i := by omega
      subst this
      have e1 := (hlt _ _ hil hm).symm.trans hi
      injection e1 with e1
      injection e1 with e1 e2
      subst e1; exact hx
  · rw [List.length_append]; omega
end
section
variable {nx : Int → Int → Bool}
/-- one after the other -/
def Csc (nx : Int → Int → Bool) (l : List Int) : Prop := ∀ (i : Nat) (a b : Int), l[i]? = some a → l[i + 1]? = some b → nx a b = true
/-- a cycle: one after the other, and the first behind the last -/
def Cyc (nx : Int → Int → Bool) (l : List Int) : Prop := ∀ (i : Nat) (a b : Int), l[i]? = some a → l[(i + 1) % l.length]? = some b → nx a b = true

theorem Wlk.last : ∀ {n : Nat} {a c : Int}, Wlk nx (n + 1) a c → ∃ b, Wlk nx n a b ∧ nx b c = true
  | 0, a, c, ⟨d, h1, h2⟩ => ⟨a, rfl, by rw [← show d = c from h2]; exact h1⟩
  | n + 1, a, c, ⟨d, h1, h2⟩ => by
    obtain ⟨b, k1, k2⟩ := Wlk.last h2
    exact ⟨b, ⟨d, h1, k1⟩, k2⟩

theorem fst_inj {L : List Be} (hn : (L.map fun e => e.1).Nodup) {i j : Nat} {m p q : Int} {d d' : Nat} (hi : L[i]? = some (m, p, d)) (hj : L[j]? = some (m, q, d')) : i = j ∧ p = q ∧ d = d' := by
  have h1 := (List.getElem?_eq_some_iff.1 hi)
  have h2 := (List.getElem?_eq_some_iff.1 hj)
  obtain ⟨a1, a2⟩ := h1
  obtain ⟨b1, b2⟩ := h2
  have e : i = j := by
    have hm1 : (L.map fun e => e.1)[i]'(by simpa using a1) = m := by simp [a2]
    have hm2 : (L.map fun e => e.1)[j]'(by simpa using b1) = m := by simp [b2]
    have := hn.idxOf_getElem i (by simpa using a1)
    have h3 := hn.idxOf_getElem j (by simpa using b1)
    rw [hm1] at this
    rw [hm2] at h3
    exact this.symm.trans h3
  subst e
  rw [hi] at hj
  injection hj with hj
  injection hj with _ hj
  injection hj with h3 h4
  exact ⟨rfl, h3, h4⟩

theorem parB_of {L : List Be} (hn : (L.map fun e => e.1).Nodup) {j : Nat} {m p : Int} {d : Nat} (hj : L[j]? = some (m, p, d)) : parB L m = p := by
  unfold parB
  cases hf : L.find? fun e => e.1 == m with
  | none =>
    have := List.find?_eq_none.1 hf _ (List.mem_of_getElem? hj)
    simp at this
  | some e =>
    have h1 := List.find?_some hf
    have h2 := List.mem_of_find?_eq_some hf
    obtain ⟨i, hi, e1⟩ := List.getElem_of_mem h2
    obtain ⟨a, b, c⟩ := e
    have h1' : a = m := by simpa using h1
    subst h1'
    exact (fst_inj hn (List.getElem?_eq_some_iff.2 ⟨hi, e1⟩) hj).2.1
/-- the way back from an entry -/
theorem recB_facts {f : Int} {i : Nat} {L : List Be} (h : InvB nx f i L) : ∀ (d j : Nat) (m p : Int) (acc : List Int), L[j]? = some (m, p, d) →
    ∃ c, recB L d m acc = c ++ acc ∧ c.length = d ∧ Csc nx (f :: c) ∧ (f :: c)[d]? = some m ∧ ∀ k y, (f :: c)[k]? = some y → ∃ (j : Nat) (q : Int), L[j]? = some (y, q, k)
  | 0, j, m, p, acc, hj => by
    have e : m = f := by
      rcases Nat.eq_zero_or_pos j with h0 | h0
      · subst h0
        obtain ⟨q, hq⟩ := h.hd
        rw [hq] at hj
        injection hj with hj
        injection hj with hj _
        exact hj.symm
      · obtain ⟨_, _, _, _, _, _, _, h5⟩ := h.par j m p 0 hj h0
        omega
    subst e
    refine ⟨[], rfl, rfl, fun k a b _ hb => by simp at hb, rfl, fun k y hy => ?_⟩
    rcases Nat.eq_zero_or_pos k with h0 | h0
    · subst h0
      simp at hy; subst hy
      exact ⟨j, p, hj⟩
    · rw [List.getElem?_eq_none (by simp; omega)] at hy; cases hy
  | d + 1, j, m, p, acc, hj => by
    have h0 : 0 < j := by
      rcases Nat.eq_zero_or_pos j with h0 | h0
      · subst h0
        obtain ⟨q, hq⟩ := h.hd
        rw [hq] at hj
        injection hj with hj
        injection hj with _ hj
        injection hj with _ hj
        omega
      · exact h0
    obtain ⟨j', q, d', a1, a2, a3, a4, a5⟩ := h.par j m p (d + 1) hj h0
    have e : d' = d := by omega
    subst e
    obtain ⟨c, b1, b2, b3, b4, b5⟩ := recB_facts h d' j' p q (m :: acc) a3
    refine ⟨c ++ [m], ?_, by simp [b2], ?_, ?_, ?_⟩
    · show recB L d' (parB L m) (m :: acc) = _
      rw [parB_of h.nd hj, b1]; simp
    · intro k a b ha hb
      rw [← List.cons_append] at ha hb
      rcases Nat.lt_or_ge (k + 1) (f :: c).length with hl | hl
      · rw [List.getElem?_append_left hl] at hb
        rw [List.getElem?_append_left (by omega)] at ha
        exact b3 k a b ha hb
      · have hk : k + 1 = (f :: c).length := by
          have := (List.getElem?_eq_some_iff.1 hb).1
          rw [List.length_append] at this
          simp at this hl ⊢
          omega
        rw [List.getElem?_append_right hl, hk, Nat.sub_self] at hb
        simp at hb; subst hb
        rw [List.getElem?_append_left (by omega)] at ha
        have : k = d' := by simp [b2] at hk; exact hk
        subst this
        rw [b4] at ha
        injection ha with ha
        subst ha; exact a4
    · rw [← List.cons_append, List.getElem?_append_right (by simp [b2])]
      simp [b2]
    · intro k y hy
      rw [← List.cons_append] at hy
      rcases Nat.lt_or_ge k (f :: c).length with hl | hl
      · rw [List.getElem?_append_left hl] at hy
        exact b5 k y hy
      · rw [List.getElem?_append_right hl] at hy
        have hk : k - (f :: c).length = 0 := by
          have := (List.getElem?_eq_some_iff.1 hy).1
          simp at this ⊢; omega
        rw [hk] at hy
        simp at hy; subst hy
        have : k = d' + 1 := by simp [b2] at hk hl; omega
        subst this
        exact ⟨j, p, hj⟩
/-- a message told from within 0..11 to within 0..11 -/
def Rng (nx : Int → Int → Bool) : Prop := ∀ a b, nx a b = true → (0 ≤ a ∧ a ≤ 11) ∧ (0 ≤ b ∧ b ≤ 11)

theorem InvB.rng {f : Int} {i : Nat} {L : List Be} (h : InvB nx f i L) (hr : Rng nx) (hf : 0 ≤ f ∧ f ≤ 11) : ∀ m ∈ L.map (fun e => e.1), 0 ≤ m ∧ m ≤ 11 := by
  intro m hm
  obtain ⟨⟨y, p, d⟩, hy, rfl⟩ := List.mem_map.1 hm
  obtain ⟨j, hj, e⟩ := List.getElem_of_mem hy
  have hj' : L[j]? = some (y, p, d) := List.getElem?_eq_some_iff.2 ⟨hj, e⟩
  rcases Nat.eq_zero_or_pos j with h0 | h0
  · subst h0
    obtain ⟨q, hq⟩ := h.hd
    rw [hq] at hj'
    injection hj' with hj'
    injection hj' with hj' _
    show 0 ≤ y ∧ y ≤ 11
    rw [← hj']; exact hf
  · obtain ⟨_, _, _, _, _, _, h4, _⟩ := h.par j y p d hj' h0
    exact (hr _ _ h4).2

theorem InvB.len {f : Int} {i : Nat} {L : List Be} (h : InvB nx f i L) (hr : Rng nx) (hf : 0 ≤ f ∧ f ≤ 11) : L.length ≤ 12 := by
  have := nodup_len h.nd (m := msg12) (fun x hx => mem_msg12.2 (h.rng hr hf x hx))
  simpa [msg12] using this
/-- what is fewer steps away than the entry that is looked at stands ahead of it -/
theorem InvB.near {f : Int} {i : Nat} {L : List Be} {x p : Int} {d : Nat} (h : InvB nx f i L) (hr : Rng nx) (hi : L[i]? = some (x, p, d)) :
    ∀ (k : Nat) (y : Int), Wlk nx k f y → k < d → ∃ (j : Nat) (q : Int) (e : Nat), j < i ∧ L[j]? = some (y, q, e) ∧ e ≤ k := by
  have hil := (List.getElem?_eq_some_iff.1 hi)
  intro k
  induction k with
  | zero =>
    intro y hy hk
    have e : f = y := hy
    subst e
    obtain ⟨q, hq⟩ := h.hd
    refine ⟨0, q, 0, ?_, hq, Nat.le_refl _⟩
    rcases Nat.eq_zero_or_pos i with h0 | h0
    · subst h0
      rw [hq] at hi
      injection hi with hi
      injection hi with _ hi
      injection hi with _ hi
      omega
    · exact h0
  | succ k ih =>
    intro y hy hk
    obtain ⟨b, h1, h2⟩ := Wlk.last hy
    obtain ⟨j, q, e, a1, a2, a3⟩ := ih b h1 (by omega)
    have hb := hr _ _ h2
    obtain ⟨j', q', d', c1, c2⟩ := h.out j b q e a1 a2 y hb.2.1 hb.2.2 h2
    refine ⟨j', q', d', ?_, c1, by omega⟩
    rcases Nat.lt_or_ge j' i with hl | hl
    · exact hl
    · exfalso
      have hj' := (List.getElem?_eq_some_iff.1 c1)
      obtain ⟨z1, z2⟩ := hj'
      obtain ⟨w1, w2⟩ := hil
      rcases Nat.eq_or_lt_of_le hl with h3 | h3
      · subst h3
        rw [z2] at w2
        injection w2 with _ w2
        injection w2 with _ w2
        omega
      · have := List.pairwise_iff_getElem.1 h.mono i j' w1 z1 h3
        rw [w2, z2] at this
        simp only at this
        omega
/-- a search that ends without a way has seen all that can be reached -/
theorem InvB.all {f : Int} {L : List Be} (h : InvB nx f L.length L) (hr : Rng nx) : ∀ (k : Nat) (y : Int), Wlk nx k f y → ∃ (j : Nat) (q : Int) (e : Nat), L[j]? = some (y, q, e) := by
  intro k
  induction k with
  | zero =>
    intro y hy
    have e : f = y := hy
    subst e
    obtain ⟨q, hq⟩ := h.hd
    exact ⟨0, q, 0, hq⟩
  | succ k ih =>
    intro y hy
    obtain ⟨b, h1, h2⟩ := Wlk.last hy
    obtain ⟨j, q, e, a2⟩ := ih b h1
    have hb := hr _ _ h2
    obtain ⟨j', q', d', c1, c2⟩ := h.out j b q e (List.getElem?_eq_some_iff.1 a2).1 a2 y hb.2.1 hb.2.2 h2
    exact ⟨j', q', d', c1⟩
/-- a shortest way from f back to f, or none -/
def Way (nx : Int → Int → Bool) (f : Int) (l : List Int) : Prop :=
  (l = [] ∧ ¬ ∃ n, Wlk nx (n + 1) f f) ∨ (l[0]? = some f ∧ l.Nodup ∧ Cyc nx l ∧ (∀ x ∈ l, 0 ≤ x ∧ x ≤ 11) ∧ ∀ n, Wlk nx (n + 1) f f → l.length ≤ n + 1)

theorem bfsB_way {f : Int} (hr : Rng nx) (hf : 0 ≤ f ∧ f ≤ 11) : ∀ (n i : Nat) (L : List Be), InvB nx f i L → 13 ≤ n + i → Way nx f (bfsB nx f n i L)
  | 0, i, L, h, hn => by
    have := h.len hr hf
    have := h.le
    omega
  | n + 1, i, L, h, hn => by
    unfold bfsB
    cases hi : L[i]? with
    | none =>
      have e : i = L.length := by
        have h1 := List.getElem?_eq_none_iff.1 hi
        have := h.le
        omega
      subst e
      refine .inl ⟨rfl, ?_⟩
      rintro ⟨k, hk⟩
      obtain ⟨b, h1, h2⟩ := Wlk.last hk
      obtain ⟨j, q, e, hj⟩ := h.all hr k b h1
      have := h.none j b q e (List.getElem?_eq_some_iff.1 hj).1 hj
      rw [h2] at this; cases this
    | some a =>
      obtain ⟨x, p, d⟩ := a
      simp only
      cases hx : nx x f with
      | false => exact bfsB_way hr hf n (i + 1) _ (h.step hi hx) (by omega)
      | true =>
        obtain ⟨c, b1, b2, b3, b4, b5⟩ := recB_facts h d i x p [] hi
        rw [List.append_nil] at b1
        simp only [if_true]
        rw [b1]
        refine .inr ⟨rfl, ?_, ?_, ?_, ?_⟩
        · rw [List.Nodup, List.pairwise_iff_getElem]
          intro k k' hk hk' hlt e
          obtain ⟨j1, q1, e1⟩ := b5 k _ (List.getElem?_eq_getElem hk)
          obtain ⟨j2, q2, e2⟩ := b5 k' _ (List.getElem?_eq_getElem hk')
          rw [← e] at e2
          have := (fst_inj h.nd e1 e2).2.2
          omega
        · intro k a b ha hb
          have hk := (List.getElem?_eq_some_iff.1 ha).1
          rcases Nat.lt_or_ge (k + 1) (f :: c).length with hl | hl
          · rw [Nat.mod_eq_of_lt hl] at hb
            exact b3 k a b ha hb
          · have e : k + 1 = (f :: c).length := by omega
            rw [e, Nat.mod_self] at hb
            simp at hb; subst hb
            have : k = d := by simp [b2] at e; exact e
            subst this
            rw [b4] at ha
            injection ha with ha
            subst ha; exact hx
        · intro y hy
          obtain ⟨k, hk, e⟩ := List.getElem_of_mem hy
          obtain ⟨j, q, e1⟩ := b5 k y (List.getElem?_eq_some_iff.2 ⟨hk, e⟩)
          exact h.rng hr hf y (List.mem_map.2 ⟨_, List.mem_of_getElem? e1, rfl⟩)
        · intro k hk
          simp [b2]
          rcases Nat.lt_or_ge k d with hl | hl
          · obtain ⟨b, h1, h2⟩ := Wlk.last hk
            obtain ⟨j, q, e, a1, a2, _⟩ := h.near hr hi k b h1 hl
            have := h.none j b q e a1 a2
            rw [h2] at this; cases this
          · exact hl

theorem pathB_way {f : Int} (hr : Rng nx) (hf : 0 ≤ f ∧ f ≤ 11) : Way nx f (pathB nx f) := bfsB_way hr hf 13 0 _ (InvB.start nx f) (by omega)
end
section
variable {nx : Int → Int → Bool}
/-- round a cycle from anywhere -/
theorem Cyc.walk {l : List Int} (h : Cyc nx l) {i : Nat} {a : Int} (hi : l[i]? = some a) : Wlk nx l.length a a := by
  have hil := (List.getElem?_eq_some_iff.1 hi).1
  have key : ∀ j, ∃ b, l[(i + j) % l.length]? = some b ∧ Wlk nx j a b := by
    intro j
    induction j with
    | zero => exact ⟨a, by rw [Nat.add_zero, Nat.mod_eq_of_lt hil]; exact hi, rfl⟩
    | succ j ih =>
      obtain ⟨b, h1, h2⟩ := ih
      have hlt : (i + (j + 1)) % l.length < l.length := Nat.mod_lt _ (by omega)
      refine ⟨l[(i + (j + 1)) % l.length], List.getElem?_eq_getElem hlt, h2.snoc (h _ _ _ h1 ?_)⟩
      rw [Nat.mod_add_mod, List.getElem?_eq_some_iff]
      exact ⟨by rw [Nat.add_assoc]; exact hlt, by simp only [Nat.add_assoc]⟩
  obtain ⟨b, h1, h2⟩ := key l.length
  rw [Nat.add_mod_right, Nat.mod_eq_of_lt hil, hi] at h1
  injection h1 with h1
  subst h1; exact h2
/-- the first of the shortest ways of the first k messages -/
def BestC (nx : Int → Int → Bool) (k : Nat) (l : List Int) : Prop :=
  (l = [] ∧ ∀ m : Int, 0 ≤ m → m < (k : Int) → ¬ ∃ n, Wlk nx (n + 1) m m) ∨
  (∃ f : Int, l[0]? = some f ∧ l.Nodup ∧ Cyc nx l ∧ (∀ x ∈ l, 0 ≤ x ∧ x ≤ 11) ∧ (∀ (m : Int) (n : Nat), 0 ≤ m → m < (k : Int) → Wlk nx (n + 1) m m → l.length ≤ n + 1) ∧ ∀ (m : Int) (n : Nat), 0 ≤ m → m < f → Wlk nx (n + 1) m m → l.length < n + 1)

theorem bestC_step (hr : Rng nx) {k : Nat} (hk : k ≤ 11) {l : List Int} (h : BestC nx k l) : BestC nx (k + 1) (stepC nx l (k : Int)) := by
  have hp := pathB_way (f := (k : Int)) hr (by omega)
  unfold stepC
  generalize hP : pathB nx (k : Int) = P at hp
  rcases hp with ⟨e, hno⟩ | ⟨p1, p2, p3, p4, p5⟩
  · subst e
    rw [if_neg (by simp)]
    rcases h with ⟨e, h1⟩ | ⟨f, h1, h2, h3, h4, h5, h6⟩
    · refine .inl ⟨e, fun m h0 hm hw => ?_⟩
      rcases Int.lt_or_le m (k : Int) with hl | hl
      · exact h1 m h0 hl hw
      · have : m = (k : Int) := by omega
        subst this; exact hno hw
    · refine .inr ⟨f, h1, h2, h3, h4, fun m n h0 hm hw => ?_, h6⟩
      rcases Int.lt_or_le m (k : Int) with hl | hl
      · exact h5 m n h0 hl hw
      · have : m = (k : Int) := by omega
        subst this; exact absurd ⟨n, hw⟩ hno
  · have hne : P ≠ [] := fun e => by subst e; simp at p1
    by_cases hc : l = [] ∨ P.length < l.length
    · rw [if_pos ⟨hne, hc⟩]
      refine .inr ⟨(k : Int), p1, p2, p3, p4, fun m n h0 hm hw => ?_, fun m n h0 hm hw => ?_⟩
      · rcases Int.lt_or_le m (k : Int) with hl | hl
        · rcases h with ⟨e, h1⟩ | ⟨f, h1, h2, h3, h4, h5, h6⟩
          · exact absurd ⟨n, hw⟩ (h1 m h0 hl)
          · have := h5 m n h0 hl hw
            rcases hc with e | hc
            · subst e; simp at h1
            · omega
        · have : m = (k : Int) := by omega
          subst this; exact p5 n hw
      · rcases h with ⟨e, h1⟩ | ⟨f, h1, h2, h3, h4, h5, h6⟩
        · exact absurd ⟨n, hw⟩ (h1 m h0 hm)
        · have := h5 m n h0 hm hw
          rcases hc with e | hc
          · subst e; simp at h1
          · omega
    · rw [if_neg (fun h => hc h.2)]
      rcases h with ⟨e, h1⟩ | ⟨f, h1, h2, h3, h4, h5, h6⟩
      · exact absurd (.inl e) hc
      · refine .inr ⟨f, h1, h2, h3, h4, fun m n h0 hm hw => ?_, h6⟩
        rcases Int.lt_or_le m (k : Int) with hl | hl
        · exact h5 m n h0 hl hw
        · have : m = (k : Int) := by omega
          subst this
          have := p5 n hw
          have : ¬ P.length < l.length := fun h => hc (.inr h)
          omega

theorem cycB_best (hr : Rng nx) : BestC nx 12 (cycB nx) := by
  have : ∀ k, k ≤ 12 → BestC nx k (((List.range k).map fun (i : Nat) => (i : Int)).foldl (stepC nx) []) := by
    intro k
    induction k with
    | zero => intro _; exact .inl ⟨rfl, fun m h0 h1 => by omega⟩
    | succ k ih =>
      intro hk
      rw [List.range_succ, List.map_append, List.foldl_append]
      exact bestC_step hr (by omega) (ih (by omega))
  exact this 12 (Nat.le_refl _)
/-- no cycle is found where there is no closed walk, and only there -/
theorem cycB_nil (hr : Rng nx) : cycB nx = [] ↔ ¬ ∃ m n, Wlk nx (n + 1) m m := by
  have h := cycB_best hr
  constructor
  · intro e
    rcases h with ⟨_, h1⟩ | ⟨f, h1, _⟩
    · rintro ⟨m, n, hw⟩
      have hm : 0 ≤ m ∧ m ≤ 11 := by
        obtain ⟨c, h2, _⟩ := hw
        exact (hr m c h2).1
      exact h1 m hm.1 (by omega) ⟨n, hw⟩
    · rw [e] at h1; simp at h1
  · intro hn
    rcases h with ⟨e, _⟩ | ⟨f, h1, h2, h3, _⟩
    · exact e
    · exfalso
      have hw := h3.walk h1
      have hl := (List.getElem?_eq_some_iff.1 h1).1
      refine hn ⟨f, (cycB nx).length - 1, ?_⟩
      rw [show (cycB nx).length - 1 + 1 = (cycB nx).length by omega]; exact hw

theorem cycB_cyc (hr : Rng nx) : Cyc nx (cycB nx) := by
  rcases cycB_best hr with ⟨e, _⟩ | ⟨f, h1, h2, h3, _⟩
  · rw [e]; intro i a b ha; simp at ha
  · exact h3

theorem cycB_nodup (hr : Rng nx) : (cycB nx).Nodup := by
  rcases cycB_best hr with ⟨e, _⟩ | ⟨f, h1, h2, _⟩
  · rw [e]; exact List.nodup_nil
  · exact h2

theorem cycB_rng (hr : Rng nx) : ∀ x ∈ cycB nx, 0 ≤ x ∧ x ≤ 11 := by
  rcases cycB_best hr with ⟨e, _⟩ | ⟨f, h1, h2, h3, h4, _⟩
  · rw [e]; intro x hx; cases hx
  · exact h4
/-- none of a cycle is smaller than its first -/
theorem cycB_first (hr : Rng nx) {i : Nat} {a f : Int} (h0 : (cycB nx)[0]? = some f) (hi : (cycB nx)[i]? = some a) : f ≤ a := by
  rcases cycB_best hr with ⟨e, _⟩ | ⟨f', h1, h2, h3, h4, h5, h6⟩
  · rw [e] at h0; simp at h0
  · rw [h0] at h1
    injection h1 with h1
    subst h1
    rcases Int.lt_or_le a f with hl | hl
    · exfalso
      have hw := h3.walk hi
      have hll := (List.getElem?_eq_some_iff.1 hi).1
      have ha := h4 a (List.mem_of_getElem? hi)
      have := h6 a ((cycB nx).length - 1) ha.1 hl (by rw [show (cycB nx).length - 1 + 1 = (cycB nx).length by omega]; exact hw)
      omega
    · exact hl

theorem cycB_len (hr : Rng nx) (hirr : ∀ a, nx a a = false) (h : cycB nx ≠ []) : 2 ≤ (cycB nx).length := by
  have hc := cycB_cyc hr
  generalize cycB nx = l at h hc
  match l, h with
  | [], h => exact absurd rfl h
  | [a], _ =>
    have := hc 0 a a rfl (by simp)
    rw [hirr] at this; cases this
  | a :: b :: l, _ => simp

theorem cycB_le12 (hr : Rng nx) : (cycB nx).length ≤ 12 := by
  have := nodup_len (cycB_nodup hr) (m := msg12) (fun x hx => mem_msg12.2 (cycB_rng hr x hx))
  simpa [msg12] using this

theorem cycB_congr {ny : Int → Int → Bool} (h : ∀ a b, nx a b = ny a b) : cycB nx = cycB ny := by
  have : nx = ny := funext fun a => funext fun b => h a b
  rw [this]
end

/-! ### traces -/
def trB (t : List Int) : Bool := decide t.Nodup && t.all fun x => decide (0 ≤ x) && decide (x ≤ 11)

theorem trB_true {t : List Int} : trB t = true ↔ (t.Nodup ∧ ∀ x ∈ t, 0 ≤ x ∧ x ≤ 11) := by
  simp [trB]
/-- one more message -/
theorem trB_snoc {t : List Int} {x : Int} : trB (t ++ [x]) = true ↔ (trB t = true ∧ (0 ≤ x ∧ x ≤ 11) ∧ x ∉ t) := by
  rw [trB_true, trB_true, List.nodup_append]
  constructor
  · rintro ⟨⟨h1, _, h3⟩, h4⟩
    exact ⟨⟨h1, fun y hy => h4 y (by simp [hy])⟩, h4 x (by simp), fun hx => h3 x hx x (by simp) rfl⟩
  · rintro ⟨⟨h1, h2⟩, h3, h4⟩
    refine ⟨⟨h1, by simp, fun a ha b hb => ?_⟩, fun y hy => ?_⟩
    · simp at hb; subst hb
      exact fun e => h4 (e ▸ ha)
    · rcases List.mem_append.1 hy with hy | hy
      · exact h2 y hy
      · simp at hy; subst hy; exact h3

theorem trB_sub {s t : List Int} (h : s.Sublist t) (ht : trB t = true) : trB s = true := by
  rw [trB_true] at ht ⊢
  exact ⟨ht.1.sublist h, fun x hx => ht.2 x (h.subset hx)⟩

theorem trB_len {t : List Int} (h : trB t = true) : t.length ≤ 12 := by
  have := nodup_len (trB_true.1 h).1 (m := msg12) (fun x hx => mem_msg12.2 ((trB_true.1 h).2 x hx))
  simpa [msg12] using this

def trsB (ts : List (List Int)) : Bool := ts.all trB && decide (ts.length ≤ 6)

theorem trsB_true {ts : List (List Int)} : trsB ts = true ↔ ((∀ t ∈ ts, trB t = true) ∧ ts.length ≤ 6) := by simp [trsB]

/-- a is told right ahead of b -/
def csB : List Int → Int → Int → Bool
  | x :: y :: l, a, b => (x == a && y == b) || csB (y :: l) a b
  | _, _, _ => false

theorem csB_true : ∀ {t : List Int} {a b : Int}, csB t a b = true ↔ ∃ k : Nat, t[k]? = some a ∧ t[k + 1]? = some b
  | [], a, b => by simp [csB]
  | [x], a, b => by
    simp only [csB, Bool.false_eq_true, false_iff]
    rintro ⟨k, _, h2⟩
    rw [List.getElem?_eq_none (by simp)] at h2; cases h2
  | x :: y :: l, a, b => by
    simp only [csB, Bool.or_eq_true, Bool.and_eq_true, beq_iff_eq]
    rw [csB_true]
    constructor
    · rintro (⟨rfl, rfl⟩ | ⟨k, h1, h2⟩)
      · exact ⟨0, rfl, rfl⟩
      · exact ⟨k + 1, h1, h2⟩
    · rintro ⟨k, h1, h2⟩
      cases k with
      | zero =>
        simp at h1 h2
        exact .inl ⟨h1, h2⟩
      | succ k => exact .inr ⟨k, h1, h2⟩

def nxT (ts : List (List Int)) (a b : Int) : Bool := ts.any fun t => csB t a b

theorem nxT_true {ts : List (List Int)} {a b : Int} : nxT ts a b = true ↔ ∃ t ∈ ts, ∃ k : Nat, t[k]? = some a ∧ t[k + 1]? = some b := by
  simp only [nxT, List.any_eq_true, csB_true]

def allT (ts : List (List Int)) : List Int := msg12.filter fun m => ts.any fun t => t.contains m

theorem msg12_nodup : msg12.Nodup := by decide

theorem allT_nodup (ts : List (List Int)) : (allT ts).Nodup := msg12_nodup.sublist List.filter_sublist

theorem mem_allT {ts : List (List Int)} {m : Int} : m ∈ allT ts ↔ ((0 ≤ m ∧ m ≤ 11) ∧ ∃ t ∈ ts, m ∈ t) := by
  simp [allT, mem_msg12]

theorem nxT_rng {ts : List (List Int)} (h : ∀ t ∈ ts, trB t = true) : Rng (nxT ts) := by
  intro a b hn
  obtain ⟨t, ht, k, h1, h2⟩ := nxT_true.1 hn
  have := (trB_true.1 (h t ht)).2
  exact ⟨this a (List.mem_of_getElem? h1), this b (List.mem_of_getElem? h2)⟩

theorem nxT_irr {ts : List (List Int)} (h : ∀ t ∈ ts, trB t = true) (a : Int) : nxT ts a a = false := by
  cases hn : nxT ts a a with
  | false => rfl
  | true =>
    obtain ⟨t, ht, k, h1, h2⟩ := nxT_true.1 hn
    have hd := (trB_true.1 (h t ht)).1
    obtain ⟨k1, e1⟩ := List.getElem?_eq_some_iff.1 h1
    obtain ⟨k2, e2⟩ := List.getElem?_eq_some_iff.1 h2
    have := hd.idxOf_getElem k k1
    have h3 := hd.idxOf_getElem (k + 1) k2
    rw [e1] at this
    rw [e2] at h3
    omega

theorem nxT_all {ts : List (List Int)} (h : ∀ t ∈ ts, trB t = true) : ∀ a b, nxT ts a b = true → a ∈ allT ts ∧ b ∈ allT ts := by
  intro a b hn
  have hr := nxT_rng h a b hn
  obtain ⟨t, ht, k, h1, h2⟩ := nxT_true.1 hn
  exact ⟨mem_allT.2 ⟨hr.1, t, ht, List.mem_of_getElem? h1⟩, mem_allT.2 ⟨hr.2, t, ht, List.mem_of_getElem? h2⟩⟩

/-! ### the answers -/
def ordT (ts : List (List Int)) : List Int := ordA (nxT ts) (allT ts)

def okT (ts : List (List Int)) : Bool := trsB ts && decide ((allT ts).length ≤ (ordT ts).length)
/-- what TraceOrder answers -/
def toR (ts : List (List Int)) : List Int := if okT ts then ordT ts else []
/-- what TraceCycle answers -/
def tcR (ts : List (List Int)) : List Int := if trsB ts then cycB (nxT ts) else []
/-- what TraceFollows answers -/
def foR (t o : List Int) : Bool := trB t && trB o && t.isSublist o

theorem foR_true {t o : List Int} : foR t o = true ↔ (trB t = true ∧ trB o = true ∧ t.Sublist o) := by
  simp [foR, and_assoc]

theorem okT_true {ts : List (List Int)} : okT ts = true ↔ (trsB ts = true ∧ (ordT ts).length = (allT ts).length) := by
  unfold okT
  rw [Bool.and_eq_true, decide_eq_true_eq]
  have := nodup_len (ordA_run (nx := nxT ts) (al := allT ts)).facts.1 (ordA_run (nx := nxT ts) (al := allT ts)).facts.2.1
  have h2 : (ordT ts).length ≤ (allT ts).length := this
  constructor
  · rintro ⟨a, b⟩; exact ⟨a, by omega⟩
  · rintro ⟨a, b⟩; exact ⟨a, by omega⟩

/-- traces have an order just where nothing goes round -/
theorem okT_iff {ts : List (List Int)} (h : trsB ts = true) : okT ts = true ↔ ¬ ∃ m n, Wlk (nxT ts) (n + 1) m m := by
  have hv := (trsB_true.1 h).1
  rw [okT_true]
  constructor
  · rintro ⟨_, hl⟩; exact ord_acyclic hl (nxT_all hv)
  · intro hn; exact ⟨h, ord_all (allT_nodup ts) hn⟩
/-- P74 -/
theorem cert {ts : List (List Int)} (h : trsB ts = true) : okT ts = decide (tcR ts = []) := by
  have hv := (trsB_true.1 h).1
  have : tcR ts = cycB (nxT ts) := by unfold tcR; rw [if_pos h]
  rw [this]
  have h1 := okT_iff h
  have h2 := cycB_nil (nxT_rng hv)
  cases ho : okT ts with
  | true => exact (decide_eq_true (h2.2 (h1.1 ho))).symm
  | false =>
    refine (decide_eq_false fun e => ?_).symm
    have := h1.2 (h2.1 e)
    rw [ho] at this; cases this
/-- what is known of an order -/
theorem ordT_facts {ts : List (List Int)} (h : okT ts = true) : (ordT ts).Nodup ∧ (∀ x, x ∈ ordT ts ↔ x ∈ allT ts) ∧ Topo (nxT ts) (allT ts) (ordT ts) ∧ trB (ordT ts) = true := by
  obtain ⟨h1, h2⟩ := okT_true.1 h
  obtain ⟨a, b, c⟩ := (ordA_run (nx := nxT ts) (al := allT ts)).facts
  have hm : ∀ x, x ∈ ordT ts ↔ x ∈ allT ts := fun x => ⟨b x, nodup_full a b (by show (allT ts).length ≤ (ordT ts).length; omega) x⟩
  exact ⟨a, hm, c, trB_true.2 ⟨a, fun x hx => (mem_allT.1 ((hm x).1 hx)).1⟩⟩
/-- ahead in the order is ahead in the list -/
theorem sub_of_idx : ∀ {o t : List Int}, (∀ x ∈ t, x ∈ o) → t.Pairwise (fun a b => o.idxOf a < o.idxOf b) → t.Sublist o
  | [], t, h, _ => by
    match t with
    | [] => exact .slnil
    | x :: t => have := h x (by simp); cases this
  | y :: o, [], _, _ => List.nil_sublist _
  | y :: o, x :: t, h, hp => by
    obtain ⟨h1, h2⟩ := List.pairwise_cons.1 hp
    have hidx : ∀ z, z ≠ y → (y :: o).idxOf z = o.idxOf z + 1 := fun z hz => by
      rw [List.idxOf_cons]
      have : (y == z) = false := by rw [beq_eq_false_iff_ne]; exact fun e => hz e.symm
      rw [this]; rfl
    have hne : ∀ z ∈ t, z ≠ y := fun z hz e => by
      have := h1 z hz
      subst e
      rw [show (z :: o).idxOf z = 0 by simp] at this; omega
    have hpt : t.Pairwise (fun a b => o.idxOf a < o.idxOf b) := by
      refine List.Pairwise.imp_of_mem ?_ h2
      intro a b ha hb hab
      rw [hidx a (hne a ha), hidx b (hne b hb)] at hab
      omega
    by_cases e : x = y
    · subst e
      refine .cons_cons _ (sub_of_idx (fun z hz => ?_) hpt)
      rcases List.mem_cons.1 (h z (by simp [hz])) with e | e
      · exact absurd e (hne z hz)
      · exact e
    · refine .cons _ (sub_of_idx (fun z hz => ?_) ?_)
      · rcases List.mem_cons.1 (h z hz) with e2 | e2
        · rcases List.mem_cons.1 hz with e3 | e3
          · exact absurd (e3.symm.trans e2) e
          · exact absurd e2 (hne z e3)
        · exact e2
      · refine List.pairwise_cons.2 ⟨fun b hb => ?_, hpt⟩
        have := h1 b hb
        rw [hidx x e, hidx b (hne b hb)] at this
        omega

theorem idx_of_sub {o t : List Int} (hn : o.Nodup) (h : t.Sublist o) : t.Pairwise (fun a b => o.idxOf a < o.idxOf b) := by
  refine List.Pairwise.sublist h ?_
  rw [List.pairwise_iff_getElem]
  intro i j hi hj hij
  rw [hn.idxOf_getElem i hi, hn.idxOf_getElem j hj]; exact hij
/-- one after the other goes on -/
theorem chain_lt {o t : List Int} (h : ∀ (i : Nat) (a b : Int), t[i]? = some a → t[i + 1]? = some b → o.idxOf a < o.idxOf b) : t.Pairwise (fun a b => o.idxOf a < o.idxOf b) := by
  rw [List.pairwise_iff_getElem]
  intro i j hi hj hij
  obtain ⟨d, rfl⟩ : ∃ d, j = i + 1 + d := ⟨j - i - 1, by omega⟩
  induction d with
  | zero => exact h i _ _ (List.getElem?_eq_getElem hi) (List.getElem?_eq_getElem hj)
  | succ d ih =>
    have hj' : i + 1 + d < t.length := by omega
    have h1 := ih hj' (by omega)
    have h2 := h (i + 1 + d) _ _ (List.getElem?_eq_getElem hj') (List.getElem?_eq_getElem (by omega : i + 1 + d + 1 < t.length))
    have e : i + 1 + d + 1 = i + 1 + (d + 1) := by omega
    simp only [e] at h2
    omega
/-- P73: every trace follows the order -/
theorem ord_follows {ts : List (List Int)} (h : okT ts = true) {t : List Int} (ht : t ∈ ts) : foR t (ordT ts) = true := by
  obtain ⟨h1, h2, h3, h4⟩ := ordT_facts h
  have hv := (trsB_true.1 (okT_true.1 h).1).1
  have hall : ∀ x ∈ t, x ∈ ordT ts := fun x hx => (h2 x).2 (mem_allT.2 ⟨(trB_true.1 (hv t ht)).2 x hx, t, ht, hx⟩)
  refine foR_true.2 ⟨hv t ht, h4, sub_of_idx hall (chain_lt fun i a b ha hb => ?_)⟩
  have hn := nxT_true.2 ⟨t, ht, i, ha, hb⟩
  exact (h3 a b hn ((nxT_all hv a b hn).1) (hall b (List.mem_of_getElem? hb))).2
/-- P79: fewer traces, or shorter ones -/
theorem ok_fewer {ts us : List (List Int)} (h : okT ts = true) (hu : trsB us = true) (hs : ∀ a b, nxT us a b = true → nxT ts a b = true) : okT us = true := by
  refine (okT_iff hu).2 ?_
  rintro ⟨m, n, hw⟩
  exact (okT_iff (okT_true.1 h).1).1 h ⟨m, n, hw.mono hs⟩
/-- P78, P80: traces of which one tells all in a row, and which keep to it -/
theorem ord_one {ts : List (List Int)} {o : List Int} (hts : trsB ts = true) (ho : o ∈ ts) (hall : ∀ t ∈ ts, t.Sublist o) : okT ts = true ∧ ordT ts = o := by
  have hv := (trsB_true.1 hts).1
  have hon := (trB_true.1 (hv o ho)).1
  have hmem : ∀ x, x ∈ allT ts ↔ x ∈ o := fun x => by
    rw [mem_allT]
    constructor
    · rintro ⟨_, t, ht, hx⟩; exact (hall t ht).subset hx
    · intro hx; exact ⟨(trB_true.1 (hv o ho)).2 x hx, o, ho, hx⟩
  have e : ordT ts = o := by
    refine ord_chain hon hmem (fun i a b ha hb => nxT_true.2 ⟨o, ho, i, ha, hb⟩) ?_
    intro a b hn ha hb
    refine ⟨(hmem a).1 ha, ?_⟩
    obtain ⟨t, ht, k, h1, h2⟩ := nxT_true.1 hn
    have hp := idx_of_sub hon (hall t ht)
    rw [List.pairwise_iff_getElem] at hp
    obtain ⟨k1, e1⟩ := List.getElem?_eq_some_iff.1 h1
    obtain ⟨k2, e2⟩ := List.getElem?_eq_some_iff.1 h2
    have := hp k (k + 1) k1 k2 (by omega)
    rw [e1, e2] at this; exact this
  refine ⟨okT_true.2 ⟨hts, ?_⟩, e⟩
  rw [e]
  have a := nodup_len hon (m := allT ts) (fun x hx => (hmem x).2 hx)
  have b := nodup_len (allT_nodup ts) (m := o) (fun x hx => (hmem x).1 hx)
  omega
/-- P83: the order of traces does not matter -/
theorem nxT_perm {ts us : List (List Int)} (h : ∀ t, t ∈ ts ↔ t ∈ us) : nxT ts = nxT us ∧ allT ts = allT us := by
  constructor
  · funext a b
    cases h1 : nxT us a b with
    | true =>
      obtain ⟨t, ht, k⟩ := nxT_true.1 h1
      exact nxT_true.2 ⟨t, (h t).2 ht, k⟩
    | false =>
      cases h2 : nxT ts a b with
      | false => rfl
      | true =>
        obtain ⟨t, ht, k⟩ := nxT_true.1 h2
        rw [nxT_true.2 ⟨t, (h t).1 ht, k⟩] at h1; cases h1
  · unfold allT
    congr 1
    funext m
    cases h1 : us.any fun t => t.contains m with
    | true =>
      obtain ⟨t, ht, k⟩ := List.any_eq_true.1 h1
      exact List.any_eq_true.2 ⟨t, (h t).2 ht, k⟩
    | false =>
      cases h2 : ts.any fun t => t.contains m with
      | false => rfl
      | true =>
        obtain ⟨t, ht, k⟩ := List.any_eq_true.1 h2
        rw [List.any_eq_true.2 ⟨t, (h t).1 ht, k⟩] at h1; cases h1

theorem rev_same {ts : List (List Int)} : okT ts.reverse = okT ts ∧ ordT ts.reverse = ordT ts ∧ tcR ts.reverse = tcR ts := by
  obtain ⟨h1, h2⟩ := nxT_perm (ts := ts.reverse) (us := ts) (fun t => List.mem_reverse)
  have h3 : trsB ts.reverse = trsB ts := by simp [trsB]
  unfold okT ordT tcR
  rw [h1, h2, h3]
  exact ⟨rfl, rfl, rfl⟩

/-! ### what the laws ask -/
/-- a is told ahead of b -/
def befB (t : List Int) (a b : Int) : Bool := t.contains a && (t.drop (t.idxOf a + 1)).contains b

theorem befB_true {t : List Int} {a b : Int} (hn : t.Nodup) : befB t a b = true ↔ (a ∈ t ∧ b ∈ t ∧ t.idxOf a < t.idxOf b) := by
  unfold befB
  rw [Bool.and_eq_true, List.contains_iff_mem, List.contains_iff_mem]
  constructor
  · rintro ⟨h1, h2⟩
    obtain ⟨i, hi, e⟩ := List.getElem_of_mem h2
    rw [List.length_drop] at hi
    rw [List.getElem_drop] at e
    have hb : b ∈ t := by rw [← e]; exact List.getElem_mem _
    refine ⟨h1, hb, ?_⟩
    have := hn.idxOf_getElem (t.idxOf a + 1 + i) (by omega)
    rw [e] at this
    omega
  · rintro ⟨h1, h2, h3⟩
    refine ⟨h1, ?_⟩
    have hl := List.idxOf_lt_length_iff.2 h2
    rw [List.mem_iff_getElem]
    refine ⟨t.idxOf b - (t.idxOf a + 1), by rw [List.length_drop]; omega, ?_⟩
    rw [List.getElem_drop]
    have : t.idxOf a + 1 + (t.idxOf b - (t.idxOf a + 1)) = t.idxOf b := by omega
    simp only [this]
    exact List.getElem_idxOf hl
/-- P77 -/
theorem pair_no {ts : List (List Int)} (h : okT ts = true) {t u : List Int} (ht : t ∈ ts) (hu : u ∈ ts) {i k : Nat} {x y : Int} (hk : k < i) (hx : t[i]? = some x) (hy : t[k]? = some y) : befB u x y = false := by
  have hv := (trsB_true.1 (okT_true.1 h).1).1
  obtain ⟨h1, _⟩ := ordT_facts h
  have st := (foR_true.1 (ord_follows h ht)).2.2
  have su := (foR_true.1 (ord_follows h hu)).2.2
  have p1 := List.pairwise_iff_getElem.1 (idx_of_sub h1 st)
  obtain ⟨a1, a2⟩ := List.getElem?_eq_some_iff.1 hx
  obtain ⟨b1, b2⟩ := List.getElem?_eq_some_iff.1 hy
  have lt1 := p1 k i b1 a1 hk
  rw [a2, b2] at lt1
  cases hb : befB u x y with
  | false => rfl
  | true =>
    exfalso
    have hun := (trB_true.1 (hv u hu)).1
    obtain ⟨c1, c2, c3⟩ := (befB_true hun).1 hb
    have p2 := List.pairwise_iff_getElem.1 (idx_of_sub h1 su)
    have l1 := List.idxOf_lt_length_iff.2 c1
    have l2 := List.idxOf_lt_length_iff.2 c2
    have lt2 := p2 _ _ l1 l2 c3
    rw [List.getElem_idxOf, List.getElem_idxOf] at lt2
    omega
/-- P81 -/
theorem follows_all {t o : List Int} (h : foR t o = true) : (∀ x ∈ t, x ∈ o) ∧ ∀ (k i : Nat) (x y : Int), k < i → t[k]? = some x → t[i]? = some y → befB o x y = true := by
  obtain ⟨h1, h2, h3⟩ := foR_true.1 h
  refine ⟨fun x hx => h3.subset hx, fun k i x y hki hx hy => ?_⟩
  have hn := (trB_true.1 h2).1
  rw [befB_true hn]
  have p := List.pairwise_iff_getElem.1 (idx_of_sub hn h3)
  obtain ⟨a1, a2⟩ := List.getElem?_eq_some_iff.1 hx
  obtain ⟨b1, b2⟩ := List.getElem?_eq_some_iff.1 hy
  have := p k i a1 b1 hki
  rw [a2, b2] at this
  exact ⟨h3.subset (List.mem_of_getElem? hx), h3.subset (List.mem_of_getElem? hy), this⟩
/-- P82 -/
theorem follows_part {t o : List Int} (h : foR t o = true) (k : Nat) : foR (t.take k ++ t.drop (k + 1)) o = true := by
  obtain ⟨h1, h2, h3⟩ := foR_true.1 h
  have hs : (t.take k ++ t.drop (k + 1)).Sublist t := by
    have : t.take k ++ t.drop k = t := List.take_append_drop k t
    conv => rhs; rw [← this]
    refine List.Sublist.append (List.Sublist.refl _) ?_
    rw [show k + 1 = k + 1 from rfl, ← List.drop_drop]
    exact List.drop_sublist _ _
  exact foR_true.2 ⟨trB_sub hs h1, h2, hs.trans h3⟩
/-- P79: one trace fewer -/
theorem fewer_drop {ts : List (List Int)} (h : okT ts = true) (k : Nat) : okT (ts.take k ++ ts.drop (k + 1)) = true := by
  have hv := trsB_true.1 (okT_true.1 h).1
  have hm : ∀ t ∈ ts.take k ++ ts.drop (k + 1), t ∈ ts := fun t ht => by
    rcases List.mem_append.1 ht with ht | ht
    · exact List.mem_of_mem_take ht
    · exact List.mem_of_mem_drop ht
  refine ok_fewer h (trsB_true.2 ⟨fun t ht => hv.1 t (hm t ht), ?_⟩) (fun a b hn => ?_)
  · rw [List.length_append, List.length_take, List.length_drop]; omega
  · obtain ⟨t, ht, i, h1, h2⟩ := nxT_true.1 hn
    exact nxT_true.2 ⟨t, hm t ht, i, h1, h2⟩
/-- P79: one trace shorter -/
theorem fewer_cut {ts : List (List Int)} (h : okT ts = true) {k : Nat} {t : List Int} (hk : ts[k]? = some t) (n : Nat) : okT (ts.set k (t.take n)) = true := by
  have hv := trsB_true.1 (okT_true.1 h).1
  have htm := List.mem_of_getElem? hk
  have hm : ∀ u ∈ ts.set k (t.take n), u ∈ ts ∨ u = t.take n := fun u hu => List.mem_or_eq_of_mem_set hu
  refine ok_fewer h (trsB_true.2 ⟨fun u hu => ?_, by rw [List.length_set]; exact hv.2⟩) (fun a b hn => ?_)
  · rcases hm u hu with hu | rfl
    · exact hv.1 u hu
    · exact trB_sub (List.take_sublist _ _) (hv.1 t htm)
  · obtain ⟨u, hu, i, h1, h2⟩ := nxT_true.1 hn
    rcases hm u hu with hu | rfl
    · exact nxT_true.2 ⟨u, hu, i, h1, h2⟩
    · refine nxT_true.2 ⟨t, htm, i, ?_, ?_⟩
      · rw [List.getElem?_take] at h1
        split at h1
        · exact h1
        · cases h1
      · rw [List.getElem?_take] at h2
        split at h2
        · exact h2
        · cases h2
/-- P80 -/
theorem again_same {ts : List (List Int)} (h : okT ts = true) (hl : ts.length ≠ 6) : okT (ts ++ [ordT ts]) = true ∧ ordT (ts ++ [ordT ts]) = ordT ts := by
  have hv := trsB_true.1 (okT_true.1 h).1
  obtain ⟨_, _, _, h4⟩ := ordT_facts h
  refine ord_one (trsB_true.2 ⟨fun t ht => ?_, ?_⟩) (by simp) (fun t ht => ?_)
  · rcases List.mem_append.1 ht with ht | ht
    · exact hv.1 t ht
    · simp at ht; subst ht; exact h4
  · rw [List.length_append]; simp; omega
  · rcases List.mem_append.1 ht with ht | ht
    · exact (foR_true.1 (ord_follows h ht)).2.2
    · simp at ht; subst ht; exact List.Sublist.refl _
/-- P78 -/
theorem one_same {t : List Int} (h : trB t = true) : okT [t] = true ∧ ordT [t] = t :=
  ord_one (trsB_true.2 ⟨fun u hu => by simp at hu; subst hu; exact h, by simp⟩) (by simp) (fun u hu => by simp at hu; subst hu; exact List.Sublist.refl _)

theorem follows_self {t : List Int} (h : trB t = true) : foR t t = true := foR_true.2 ⟨h, h, List.Sublist.refl _⟩
/-- P84 -/
theorem two_empty : okT [[], []] = true ∧ toR [[], []] = [] := by decide

theorem one_iff {t : List Int} : okT [t] = trB t := by
  cases h : trB t with
  | true => exact (one_same h).1
  | false =>
    cases h2 : okT [t] with
    | false => rfl
    | true =>
      have := (trsB_true.1 (okT_true.1 h2).1).1 t (by simp)
      rw [h] at this; cases this

theorem nil_follows (o : List Int) : foR [] o = trB o := by
  simp [foR, trB]
/-- P73: the messages of an order -/
theorem ord_has {ts : List (List Int)} (h : okT ts = true) {m : Int} (h0 : 0 ≤ m) (h1 : m ≤ 11) : (ts.any fun t => t.contains m) = (ordT ts).contains m := by
  obtain ⟨_, h2, _⟩ := ordT_facts h
  cases h3 : (ordT ts).contains m with
  | true =>
    obtain ⟨_, t, ht, hm⟩ := mem_allT.1 ((h2 m).1 (List.contains_iff_mem.1 h3))
    exact List.any_eq_true.2 ⟨t, ht, List.contains_iff_mem.2 hm⟩
  | false =>
    cases h4 : ts.any fun t => t.contains m with
    | false => rfl
    | true =>
      obtain ⟨t, ht, hm⟩ := List.any_eq_true.1 h4
      have := List.contains_iff_mem.2 ((h2 m).2 (mem_allT.2 ⟨⟨h0, h1⟩, t, ht, List.contains_iff_mem.1 hm⟩))
      rw [h3] at this; cases this

theorem ord_count {ts : List (List Int)} (h : okT ts = true) : (msg12.filter fun m => ts.any fun t => t.contains m).length = (ordT ts).length := (okT_true.1 h).2.symm

theorem toR_len {ts : List (List Int)} : (toR ts).length ≤ 12 := by
  unfold toR
  split
  · rename_i h
    exact trB_len (ordT_facts h).2.2.2
  · simp

theorem tcR_len {ts : List (List Int)} : (tcR ts).length ≤ 12 := by
  unfold tcR
  split
  · rename_i h
    exact cycB_le12 (nxT_rng (trsB_true.1 h).1)
  · simp
/-- P75, P76 -/
theorem tc_facts {ts : List (List Int)} (h : tcR ts ≠ []) : Cyc (nxT ts) (tcR ts) ∧ (tcR ts).Nodup ∧ 2 ≤ (tcR ts).length ∧ ∀ (i : Nat) (a f : Int), (tcR ts)[0]? = some f → (tcR ts)[i]? = some a → f ≤ a := by
  have hs : trsB ts = true := by
    cases hs : trsB ts with
    | true => rfl
    | false => exact absurd (by unfold tcR; rw [hs]; rfl) h
  have e : tcR ts = cycB (nxT ts) := by unfold tcR; rw [if_pos hs]
  have hv := (trsB_true.1 hs).1
  have hr := nxT_rng hv
  rw [e] at h ⊢
  exact ⟨cycB_cyc hr, cycB_nodup hr, cycB_len hr (nxT_irr hv) h, fun i a f h0 hi => cycB_first hr h0 hi⟩

/-! ### the search as the model keeps it: for each message where it was reached from, and the line -/
def bfOf (L : List Be) : List Int := msg12.map (parB L)

structure PB (f : Int) (L : List Be) : Prop where
  nd : (L.map fun e => e.1).Nodup
  hd : L[0]? = some (f, -1, 0)
  ent : ∀ (j : Nat) (m p : Int) (d : Nat), L[j]? = some (m, p, d) → 0 < j → (0 ≤ p ∧ p ≤ 11) ∧ ∃ (d' j' : Nat) (q : Int), d = d' + 1 ∧ L[j']? = some (p, q, d')
  rng : ∀ e ∈ L, 0 ≤ e.1 ∧ e.1 ≤ 11

theorem bfOf_len (L : List Be) : (bfOf L).length = 12 := by simp [bfOf, msg12]

theorem bfOf_get (L : List Be) {m : Int} (h0 : 0 ≤ m) (h1 : m ≤ 11) : (bfOf L)[m.toNat]? = some (parB L m) := by
  unfold bfOf msg12
  rw [List.getElem?_map, List.getElem?_map, List.getElem?_range (by omega)]
  simp only [Option.map_some]
  rw [show ((m.toNat : Nat) : Int) = m by omega]

theorem parB_none {L : List Be} {m : Int} (h : m ∉ L.map fun e => e.1) : parB L m = -1 := by
  unfold parB
  have : L.find? (fun e => e.1 == m) = none := by
    rw [List.find?_eq_none]
    intro e he hm
    exact h (List.mem_map.2 ⟨e, he, by simpa using hm⟩)
  rw [this]

theorem parB_snoc {L : List Be} {m x : Int} {d : Nat} (h : m ∉ L.map fun e => e.1) (k : Int) : parB (L ++ [(m, x, d)]) k = if k = m then x else parB L k := by
  unfold parB
  rw [List.find?_append]
  by_cases hk : k = m
  · subst hk
    have : L.find? (fun e => e.1 == k) = none := by
      rw [List.find?_eq_none]
      intro e he hm
      exact h (List.mem_map.2 ⟨e, he, by simpa using hm⟩)
    rw [this, if_pos rfl]
    simp
  · rw [if_neg hk]
    cases hf : L.find? (fun e => e.1 == k) with
    | some e => simp
    | none =>
      have : (m == k) = false := by rw [beq_eq_false_iff_ne]; exact fun e => hk e.symm
      simp [this]

theorem bfOf_start (f : Int) : bfOf [(f, -1, 0)] = List.replicate 12 (-1) := by
  have : ∀ m, parB [(f, -1, 0)] m = -1 := fun m => by
    unfold parB
    cases h : (f == m) <;> simp [h]
  unfold bfOf msg12
  apply List.ext_getElem?
  intro i
  rw [List.getElem?_map, List.getElem?_map, List.getElem?_replicate]
  by_cases hi : i < 12
  · rw [List.getElem?_range hi, if_pos hi]
    simp [this]
  · rw [List.getElem?_eq_none (by simp; omega), if_neg hi]; rfl

theorem bfOf_snoc {L : List Be} {m x : Int} {d : Nat} (h : m ∉ L.map fun e => e.1) (h0 : 0 ≤ m) (h1 : m ≤ 11) : bfOf (L ++ [(m, x, d)]) = (bfOf L).set m.toNat x := by
  apply List.ext_getElem?
  intro i
  unfold bfOf msg12
  rw [List.getElem?_set, List.getElem?_map, List.getElem?_map, List.getElem?_map, List.getElem?_map]
  by_cases hi : i < 12
  · rw [List.getElem?_range hi]
    simp only [Option.map_some]
    rw [parB_snoc h]
    by_cases e : m.toNat = i
    · rw [if_pos (by omega), if_pos e, if_pos (by simp; omega)]
    · rw [if_neg (by omega), if_neg e]
  · rw [List.getElem?_eq_none (by simp; omega)]
    by_cases e : m.toNat = i
    · omega
    · rw [if_neg e]; rfl

theorem PB.start {f : Int} (hf : 0 ≤ f ∧ f ≤ 11) : PB f [(f, -1, 0)] where
  nd := by simp
  hd := rfl
  ent := fun j m p d hj h0 => by
    rw [List.getElem?_eq_none (by simp; omega)] at hj; cases hj
  rng := fun e he => by simp at he; subst he; exact hf

theorem PB.snoc {f : Int} {L : List Be} {m x p : Int} {j d : Nat} (h : PB f L) (hx : L[j]? = some (x, p, d)) (hm : m ∉ L.map fun e => e.1) (h0 : 0 ≤ m) (h1 : m ≤ 11) : PB f (L ++ [(m, x, d + 1)]) where
  nd := by
    rw [List.map_append, List.nodup_append]
    refine ⟨h.nd, by simp, fun a ha b hb => ?_⟩
    simp at hb; subst hb
    exact fun e => hm (by rw [← e]; exact ha)
  hd := by
    have := (List.getElem?_eq_some_iff.1 h.hd).1
    rw [List.getElem?_append_left this]; exact h.hd
  ent := fun k m' p' d' hk hk0 => by
    have hold : ∀ (j : Nat) (a : Be), L[j]? = some a → (L ++ [(m, x, d + 1)])[j]? = some a := fun j a hj => by
      rw [List.getElem?_append_left (List.getElem?_eq_some_iff.1 hj).1]; exact hj
    rcases Nat.lt_or_ge k L.length with hl | hl
    · rw [List.getElem?_append_left hl] at hk
      obtain ⟨a, d2, j2, q, b, c⟩ := h.ent k m' p' d' hk hk0
      exact ⟨a, d2, j2, q, b, hold _ _ c⟩
    · rw [List.getElem?_append_right hl] at hk
      have hz : k - L.length = 0 := by
        have := (List.getElem?_eq_some_iff.1 hk).1
        simp at this; omega
      rw [hz] at hk
      simp at hk
      obtain ⟨rfl, rfl, rfl⟩ := hk
      exact ⟨h.rng _ (List.mem_of_getElem? hx), d, j, p, rfl, hold _ _ hx⟩
  rng := fun e he => by
    rcases List.mem_append.1 he with he | he
    · exact h.rng e he
    · simp at he; subst he; exact ⟨h0, h1⟩

theorem PB.test {f : Int} {L : List Be} (h : PB f L) {m : Int} (hm : m ≠ f) : parB L m < 0 ↔ m ∉ L.map fun e => e.1 := by
  constructor
  · intro hl hin
    obtain ⟨⟨a, p, d⟩, he, rfl⟩ := List.mem_map.1 hin
    obtain ⟨j, hj, e⟩ := List.getElem_of_mem he
    have hj' : L[j]? = some (a, p, d) := List.getElem?_eq_some_iff.2 ⟨hj, e⟩
    rcases Nat.eq_zero_or_pos j with h0 | h0
    · subst h0
      rw [h.hd] at hj'
      injection hj' with hj'
      injection hj' with hj' _
      exact hm hj'.symm
    · have := (h.ent j a p d hj' h0).1
      rw [parB_of h.nd hj'] at hl
      omega
  · intro hn
    rw [parB_none hn]; omega
/-- the first m messages of a row -/
def rowTo (nx : Int → Int → Bool) (x : Int) (d : Nat) (m : Nat) (L : List Be) : List Be := ((List.range m).map fun (i : Nat) => (i : Int)).foldl (visB nx x d) L

theorem rowTo_12 (nx : Int → Int → Bool) (x : Int) (d : Nat) (L : List Be) : rowTo nx x d 12 L = rowB nx x d msg12 L := rfl

theorem rowTo_succ (nx : Int → Int → Bool) (x : Int) (d m : Nat) (L : List Be) : rowTo nx x d (m + 1) L = visB nx x d (rowTo nx x d m L) (m : Int) := by
  unfold rowTo
  rw [List.range_succ, List.map_append, List.foldl_append]; rfl

theorem visB_no {nx : Int → Int → Bool} {x : Int} {d : Nat} {L : List Be} {m : Int} (h : nx x m = false ∨ m ∈ L.map fun e => e.1) : visB nx x d L m = L := by
  unfold visB
  rw [if_neg]
  rw [Bool.and_eq_true]
  rintro ⟨h1, h2⟩
  rcases h with h | h
  · rw [h] at h1; cases h1
  · rw [any_fst.2 h] at h2; cases h2

theorem visB_yes {nx : Int → Int → Bool} {x : Int} {d : Nat} {L : List Be} {m : Int} (h : nx x m = true) (hm : m ∉ L.map fun e => e.1) : visB nx x d L m = L ++ [(m, x, d + 1)] := by
  unfold visB
  rw [if_pos]
  rw [Bool.and_eq_true]
  refine ⟨h, ?_⟩
  cases ha : (L.any fun e => e.1 == m) with
  | false => rfl
  | true => exact absurd (any_fst.1 ha) hm

theorem recB_len (L : List Be) : ∀ (d : Nat) (y : Int) (acc : List Int), (recB L d y acc).length = d + acc.length
  | 0, y, acc => by simp [recB]
  | d + 1, y, acc => by
    show (recB L d (parB L y) (y :: acc)).length = _
    rw [recB_len L d]
    simp; omega
/-- what was added since does not turn a way back -/
theorem recB_pre {f : Int} {L N : List Be} (h : PB f L) (hn : ((L ++ N).map fun e => e.1).Nodup) : ∀ (d j : Nat) (m p : Int) (acc : List Int), L[j]? = some (m, p, d) → recB (L ++ N) d m acc = recB L d m acc
  | 0, _, _, _, _, _ => rfl
  | d + 1, j, m, p, acc, hj => by
    have hj' : (L ++ N)[j]? = some (m, p, d + 1) := by
      rw [List.getElem?_append_left (List.getElem?_eq_some_iff.1 hj).1]; exact hj
    have h0 : 0 < j := by
      rcases Nat.eq_zero_or_pos j with h0 | h0
      · subst h0
        rw [h.hd] at hj
        injection hj with hj
        injection hj with _ hj
        injection hj with _ hj
        omega
      · exact h0
    obtain ⟨_, d', j', q, e, hp⟩ := h.ent j m p (d + 1) hj h0
    have e' : d' = d := by omega
    subst e'
    show recB (L ++ N) d' (parB (L ++ N) m) (m :: acc) = recB L d' (parB L m) (m :: acc)
    rw [parB_of hn hj', parB_of h.nd hj]
    exact recB_pre h hn d' j' p q (m :: acc) hp
/-- the first entry is the one without a step -/
theorem PB.zero {f : Int} {L : List Be} (h : PB f L) {j : Nat} {m p : Int} {d : Nat} (hj : L[j]? = some (m, p, d)) : m = f ↔ d = 0 := by
  rcases Nat.eq_zero_or_pos j with h0 | h0
  · subst h0
    rw [h.hd] at hj
    injection hj with hj
    injection hj with h1 hj
    injection hj with _ h2
    exact ⟨fun _ => h2.symm, fun _ => h1.symm⟩
  · constructor
    · intro e
      subst e
      have := fst_inj h.nd hj h.hd
      omega
    · intro e
      obtain ⟨_, d', j', q, e', _⟩ := h.ent j m p d hj h0
      omega
end Go.Proofs.Ytdhafappclcijaa
