/- RsMath. -/
import Derived.Test.YtfgcnknmiclfnaaDoorPb10
set_option linter.unusedVariables false
namespace Go.Proofs.YtfgcnknmiclfnaaDoor
open Go.RowKit
def sucs (L : List IN) (bg en : Bool) (k : Nat) : List Nat :=
  match L[k]? with
  | none => []
  | some x => if x.op = 2 then [x.x.toNat, x.y.toNat] else if x.op = 3 then [x.x.toNat] else if x.op = 4 then (if bg then [k + 1] else []) else if x.op = 5 then (if en then [k + 1] else []) else []
def trm (L : List IN) (k : Nat) : Bool :=
  match L[k]? with
  | none => false
  | some x => decide (x.op = 1) || decide (x.op = 6)
def opAt (L : List IN) (k : Nat) (o : Int) : Bool :=
  match L[k]? with
  | none => false
  | some x => decide (x.op = o)
def sel (L : List IN) (c : UInt8) (p : Nat × Nat) : Bool :=
  match L[p.1]? with
  | none => false
  | some x => decide (x.op = 1) && x.st c.toNat
def bgB (ln : Bool) (s : List UInt8) (i : Nat) : Bool := decide (i = 0) || (ln && decide (s[i - 1]? = some 10))
def enB (ln : Bool) (s : List UInt8) (i : Nat) : Bool := decide (i = s.length) || (ln && decide (s[i]? = some 10))
def stp (L : List IN) (ln : Bool) (s : List UInt8) (i : Nat) : Nat → List Nat := sucs L (bgB ln s i) (enB ln s i)
inductive Rch (S : Nat → List Nat) (a : Nat) : Nat → Prop
  | refl : Rch S a a
  | step {b c : Nat} : Rch S a b → c ∈ S b → Rch S a c
theorem Rch.head {S : Nat → List Nat} {a y b : Nat} (hy : y ∈ S a) (h : Rch S y b) : Rch S a b := by
  induction h with
  | refl => exact .step .refl hy
  | step _ hc ih => exact .step ih hc
theorem Rch.trans {S : Nat → List Nat} {a y b : Nat} (h0 : Rch S a y) (h : Rch S y b) : Rch S a b := by
  induction h with
  | refl => exact h0
  | step _ hc ih => exact .step ih hc
theorem Rch.closed {S : Nat → List Nat} {a b : Nat} {X : Nat → Prop} (h : Rch S a b) (h0 : X a) (hc : ∀ k, X k → ∀ y ∈ S k, X y) : X b := by
  induction h with
  | refl => exact h0
  | step _ hm ih => exact hc _ ih _ hm
theorem Rch.inv {S : Nat → List Nat} {a b : Nat} (h : Rch S a b) : b = a ∨ ∃ y ∈ S a, Rch S y b := by
  induction h with
  | refl => exact .inl rfl
  | step h1 hc ih =>
    rcases ih with rfl | ⟨y, hy, h2⟩
    · exact .inr ⟨_, hc, .refl⟩
    · exact .inr ⟨y, hy, .step h2 hc⟩
inductive Rd (L : List IN) (ln : Bool) (s : List UInt8) (f : Nat) : Nat → Nat → Prop
  | beg {b : Nat} : Rch (stp L ln s f) 0 b → Rd L ln s f f b
  | adv {i a b : Nat} {x : IN} {c : UInt8} : Rd L ln s f i a → L[a]? = some x → x.op = 1 → s[i]? = some c → x.st c.toNat = true → Rch (stp L ln s (i + 1)) (a + 1) b → Rd L ln s f (i + 1) b
theorem Rd.le {L ln s f i b} (h : Rd L ln s f i b) : f ≤ i := by
  induction h with
  | beg _ => exact Nat.le_refl _
  | adv _ _ _ _ _ _ ih => omega
theorem Rd.inv {L ln s f i b} (h : Rd L ln s f (i + 1) b) (hf : f ≤ i) : ∃ a x c, Rd L ln s f i a ∧ L[a]? = some x ∧ x.op = 1 ∧ s[i]? = some c ∧ x.st c.toNat = true ∧ Rch (stp L ln s (i + 1)) (a + 1) b := by
  generalize hj : i + 1 = j at h
  cases h with
  | beg _ => omega
  | adv h1 h2 h3 h4 h5 h6 =>
    obtain rfl := Nat.succ.inj hj
    exact ⟨_, _, _, h1, h2, h3, h4, h5, h6⟩
theorem Rd.inv0 {L ln s f b} (h : Rd L ln s f f b) : Rch (stp L ln s f) 0 b := by
  generalize hj : f = j at h
  cases h with
  | beg h => subst hj; exact h
  | adv h1 _ _ _ _ _ => have := h1.le; omega
theorem Rd.len {L ln s f i b} (h : Rd L ln s f i b) (hf : f ≤ s.length) : i ≤ s.length := by
  cases h with
  | beg _ => exact hf
  | adv _ _ _ h4 _ _ => have := (List.getElem?_eq_some_iff.1 h4).1; omega
theorem trm_of {L : List IN} {a : Nat} {x : IN} (h : L[a]? = some x) (ho : x.op = 1 ∨ x.op = 6) : trm L a = true := by
  unfold trm; rw [h]; simpa using ho
theorem opAt_of {L : List IN} {a : Nat} {x : IN} {o : Int} (h : L[a]? = some x) : opAt L a o = decide (x.op = o) := by
  unfold opAt; rw [h]
theorem trm_op {L : List IN} {a : Nat} : trm L a = (opAt L a 1 || opAt L a 6) := by
  unfold trm opAt; split <;> rfl
structure RR (S : Nat → List Nat) (tm : Nat → Bool) (ks : List Nat) (f : Nat) (M M' : Nat → Bool) (T T' : List (Nat × Nat)) : Prop where
  mono : ∀ j, M j = true → M' j = true
  strt : ∀ k, k ∈ ks → M' k = true
  clos : ∀ a, M' a = true → M a = false → ∀ y, y ∈ S a → M' y = true
  orig : ∀ a, M' a = true → M a = false → ∃ k, k ∈ ks ∧ Rch S k a
  news : ∃ N : List Nat, T' = T ++ N.map (fun b => (b, f)) ∧ N.Nodup ∧ ∀ a, a ∈ N ↔ (M' a = true ∧ M a = false ∧ tm a = true)
def putM (M : Nat → Bool) (k : Nat) : Nat → Bool := fun j => M j || decide (j = k)
theorem putM_self (M : Nat → Bool) (k : Nat) : putM M k k = true := by simp [putM]
theorem putM_old {M : Nat → Bool} {k j : Nat} (h : M j = true) : putM M k j = true := by simp [putM, h]
theorem putM_iff {M : Nat → Bool} {k j : Nat} : putM M k j = true ↔ (M j = true ∨ j = k) := by simp [putM]
theorem putM_no {M : Nat → Bool} {k j : Nat} : putM M k j = false ↔ (M j = false ∧ j ≠ k) := by simp [putM]
theorem RR.nil (S tm f M T) : RR S tm [] f M M T T :=
  ⟨fun _ h => h, fun _ h => by simp at h, fun a h1 h2 => (absurd (h1.symm.trans h2) (by decide)), fun a h1 h2 => (absurd (h1.symm.trans h2) (by decide)), [], by simp, List.nodup_nil, fun a => ⟨fun h => by simp at h, fun ⟨h1, h2, _⟩ => (absurd (h1.symm.trans h2) (by decide))⟩⟩
theorem RR.hit {S tm k f M T} (h : M k = true) : RR S tm [k] f M M T T :=
  ⟨fun _ h => h, fun j hj => by obtain rfl := List.mem_singleton.1 hj; exact h, fun a h1 h2 => (absurd (h1.symm.trans h2) (by decide)), fun a h1 h2 => (absurd (h1.symm.trans h2) (by decide)), [], by simp, List.nodup_nil, fun a => ⟨fun h => by simp at h, fun ⟨h1, h2, _⟩ => (absurd (h1.symm.trans h2) (by decide))⟩⟩
theorem RR.app {S tm ks ls f M M1 M2 T T1 T2} (h : RR S tm ks f M M1 T T1) (g : RR S tm ls f M1 M2 T1 T2) : RR S tm (ks ++ ls) f M M2 T T2 := by
  obtain ⟨N, e1, n1, m1⟩ := h.news
  obtain ⟨N', e2, n2, m2⟩ := g.news
  refine ⟨fun j hj => g.mono _ (h.mono _ hj), fun k hk => ?_, fun a h1 h2 y hy => ?_, fun a h1 h2 => ?_, N ++ N', ?_, ?_, fun a => ?_⟩
  · rcases List.mem_append.1 hk with hk | hk
    · exact g.mono _ (h.strt _ hk)
    · exact g.strt _ hk
  · cases hm : M1 a with
    | true => exact g.mono _ (h.clos _ hm h2 _ hy)
    | false => exact g.clos _ h1 hm _ hy
  · cases hm : M1 a with
    | true => obtain ⟨k, hk, hr⟩ := h.orig _ hm h2; exact ⟨k, List.mem_append_left _ hk, hr⟩
    | false => obtain ⟨k, hk, hr⟩ := g.orig _ h1 hm; exact ⟨k, List.mem_append_right _ hk, hr⟩
  · rw [e2, e1, List.map_append, List.append_assoc]
  · rw [List.nodup_append]
    refine ⟨n1, n2, fun a ha b hb e => ?_⟩
    subst e
    have := ((m1 a).1 ha).1
    rw [((m2 a).1 hb).2.1] at this
    cases this
  · rw [List.mem_append, m1, m2]
    constructor
    · rintro (⟨h1, h2, h3⟩ | ⟨h1, h2, h3⟩)
      · exact ⟨g.mono _ h1, h2, h3⟩
      · refine ⟨h1, ?_, h3⟩
        cases hm : M a with
        | false => rfl
        | true => rw [h.mono _ hm] at h2; cases h2
    · rintro ⟨h1, h2, h3⟩
      cases hm : M1 a with
      | true => exact .inl ⟨rfl, h2, h3⟩
      | false => exact .inr ⟨h1, rfl, h3⟩
theorem RR.node {S tm k f M M' T T'} (h0 : M k = false) (ht : tm k = false) (h : RR S tm (S k) f (putM M k) M' T T') : RR S tm [k] f M M' T T' := by
  obtain ⟨N, e1, n1, m1⟩ := h.news
  refine ⟨fun j hj => h.mono _ (putM_old hj), fun j hj => ?_, fun a h1 h2 y hy => ?_, fun a h1 h2 => ?_, N, e1, n1, fun a => ?_⟩
  · obtain rfl := List.mem_singleton.1 hj
    exact h.mono _ (putM_self _ _)
  · by_cases ha : a = k
    · subst ha; exact h.strt _ hy
    · exact h.clos _ h1 (putM_no.2 ⟨h2, ha⟩) _ hy
  · by_cases ha : a = k
    · subst ha; exact ⟨a, List.mem_singleton.2 rfl, .refl⟩
    · obtain ⟨y, hy, hr⟩ := h.orig _ h1 (putM_no.2 ⟨h2, ha⟩)
      exact ⟨k, List.mem_singleton.2 rfl, .head hy hr⟩
  · rw [m1, putM_no]
    constructor
    · rintro ⟨h1, ⟨h2, _⟩, h3⟩; exact ⟨h1, h2, h3⟩
    · rintro ⟨h1, h2, h3⟩; exact ⟨h1, ⟨h2, fun e => by subst e; rw [ht] at h3; cases h3⟩, h3⟩
theorem RR.leaf {S tm k f M T} (h0 : M k = false) (ht : tm k = true) (hs : S k = []) : RR S tm [k] f M (putM M k) T (T ++ [(k, f)]) := by
  refine ⟨fun j hj => putM_old hj, fun j hj => ?_, fun a h1 h2 y hy => ?_, fun a h1 h2 => ?_, [k], rfl, by simp, fun a => ?_⟩
  · obtain rfl := List.mem_singleton.1 hj; exact putM_self _ _
  · rcases putM_iff.1 h1 with h | rfl
    · rw [h] at h2; cases h2
    · rw [hs] at hy; simp at hy
  · rcases putM_iff.1 h1 with h | rfl
    · rw [h] at h2; cases h2
    · exact ⟨a, List.mem_singleton.2 rfl, .refl⟩
  · rw [List.mem_singleton, putM_iff]
    constructor
    · rintro rfl; exact ⟨.inr rfl, h0, ht⟩
    · rintro ⟨h1 | h1, h2, _⟩
      · rw [h1] at h2; cases h2
      · exact h1
structure IV (S : Nat → List Nat) (tm : Nat → Bool) (P : List (Nat × Nat)) (M : Nat → Bool) (T : List (Nat × Nat)) : Prop where
  mrk : ∀ a, M a = true ↔ ∃ p, p ∈ P ∧ Rch S p.1 a
  srt : T.Pairwise (fun p q => p.2 ≤ q.2)
  nd : (T.map (·.1)).Nodup
  mem : ∀ b f, (b, f) ∈ T ↔ (tm b = true ∧ (∃ k, (k, f) ∈ P ∧ Rch S k b) ∧ ∀ p, p ∈ P → Rch S p.1 b → f ≤ p.2)
theorem IV.nil (S tm) : IV S tm [] (fun _ => false) [] :=
  ⟨fun a => ⟨fun h => (by cases h), fun ⟨_, h, _⟩ => (by simp at h)⟩, .nil, List.nodup_nil, fun b f => ⟨fun h => (by simp at h), fun ⟨_, ⟨_, h, _⟩, _⟩ => (by simp at h)⟩⟩
theorem IV.add {S tm P M T k f M' T'} (h : IV S tm P M T) (hf : ∀ p, p ∈ P → p.2 ≤ f) (r : RR S tm [k] f M M' T T') : IV S tm (P ++ [(k, f)]) M' T' := by
  obtain ⟨N, e1, n1, m1⟩ := r.news
  have hcl : ∀ a, M a = true → ∀ y, y ∈ S a → M y = true := fun a ha y hy => by
    obtain ⟨p, hp, hr⟩ := (h.mrk a).1 ha
    exact (h.mrk y).2 ⟨p, hp, .step hr hy⟩
  have hcl2 : ∀ a, M' a = true → ∀ y, y ∈ S a → M' y = true := fun a ha y hy => by
    cases hm : M a with
    | true => exact r.mono _ (hcl a hm y hy)
    | false => exact r.clos _ ha hm _ hy
  have hkr : ∀ a, Rch S k a → M' a = true := fun a hr => hr.closed (X := fun j => M' j = true) (r.strt k (List.mem_singleton.2 rfl)) hcl2
  have hold : ∀ b g, (b, g) ∈ T → M b = true := fun b g hb => by
    obtain ⟨_, ⟨j, hj, hr⟩, _⟩ := (h.mem b g).1 hb
    exact (h.mrk b).2 ⟨_, hj, hr⟩
  have hle : ∀ b g, (b, g) ∈ T → g ≤ f := fun b g hb => by
    obtain ⟨_, ⟨j, hj, hr⟩, _⟩ := (h.mem b g).1 hb
    exact hf _ hj
  refine ⟨fun a => ⟨fun ha => ?_, ?_⟩, ?_, ?_, fun b g => ?_⟩
  · cases hm : M a with
    | true => obtain ⟨p, hp, hr⟩ := (h.mrk a).1 hm; exact ⟨p, List.mem_append_left _ hp, hr⟩
    | false =>
      obtain ⟨j, hj, hr⟩ := r.orig _ ha hm
      obtain rfl := List.mem_singleton.1 hj
      exact ⟨(j, f), List.mem_append_right _ (List.mem_singleton.2 rfl), hr⟩
  · rintro ⟨p, hp, hr⟩
    rcases List.mem_append.1 hp with hp | hp
    · exact r.mono _ ((h.mrk a).2 ⟨p, hp, hr⟩)
    · obtain rfl := List.mem_singleton.1 hp; exact hkr _ hr
  · rw [e1, List.pairwise_append]
    refine ⟨h.srt, ?_, fun p hp q hq => ?_⟩
    · rw [List.pairwise_map]
      exact List.Pairwise.imp (fun _ => Nat.le_refl _) n1
    · obtain ⟨a, _, rfl⟩ := List.mem_map.1 hq
      exact hle p.1 p.2 hp
  · have e2 : (N.map (fun b => (b, f))).map (·.1) = N := by rw [List.map_map]; exact (List.map_id'' (fun _ => rfl) N)
    rw [e1, List.map_append, e2, List.nodup_append]
    refine ⟨h.nd, n1, fun a ha b hb e => ?_⟩
    subst e
    obtain ⟨p, hp, rfl⟩ := List.mem_map.1 ha
    have := hold p.1 p.2 hp
    rw [((m1 _).1 hb).2.1] at this
    cases this
  · rw [e1, List.mem_append]
    constructor
    · rintro (hb | hb)
      · obtain ⟨h1, ⟨j, hj, hr⟩, h3⟩ := (h.mem b g).1 hb
        refine ⟨h1, ⟨j, List.mem_append_left _ hj, hr⟩, fun p hp hrp => ?_⟩
        rcases List.mem_append.1 hp with hp | hp
        · exact h3 p hp hrp
        · obtain rfl := List.mem_singleton.1 hp; exact hle b g hb
      · obtain ⟨a, ha, e⟩ := List.mem_map.1 hb
        obtain ⟨rfl, rfl⟩ := Prod.mk.injEq .. ▸ e
        obtain ⟨h1, h2, h3⟩ := (m1 a).1 ha
        obtain ⟨j, hj, hr⟩ := r.orig _ h1 h2
        obtain rfl := List.mem_singleton.1 hj
        refine ⟨h3, ⟨j, List.mem_append_right _ (List.mem_singleton.2 rfl), hr⟩, fun p hp hrp => ?_⟩
        rcases List.mem_append.1 hp with hp | hp
        · rw [(h.mrk a).2 ⟨p, hp, hrp⟩] at h2; cases h2
        · obtain rfl := List.mem_singleton.1 hp; exact Nat.le_refl _
    · rintro ⟨h1, ⟨j, hj, hr⟩, h3⟩
      have h3P : ∀ p, p ∈ P → Rch S p.1 b → g ≤ p.2 := fun p hp hrp => h3 p (List.mem_append_left _ hp) hrp
      rcases List.mem_append.1 hj with hj | hj
      · exact .inl ((h.mem b g).2 ⟨h1, ⟨j, hj, hr⟩, h3P⟩)
      · obtain ⟨rfl, rfl⟩ := Prod.mk.injEq .. ▸ List.mem_singleton.1 hj
        cases hm : M b with
        | true =>
          obtain ⟨p, hp, hrp⟩ := (h.mrk b).1 hm
          have := h3P p hp hrp
          have := hf p hp
          have e : p.2 = g := by omega
          exact .inl ((h.mem b g).2 ⟨h1, ⟨p.1, by rw [← e]; exact hp, hrp⟩, h3P⟩)
        | false => exact .inr (List.mem_map.2 ⟨b, (m1 b).2 ⟨hkr _ hr, hm, h1⟩, rfl⟩)
structure ThS (L : List IN) (ln : Bool) (s : List UInt8) (lo F i : Nat) (T : List (Nat × Nat)) : Prop where
  srt : T.Pairwise (fun p q => p.2 ≤ q.2)
  nd : (T.map (·.1)).Nodup
  mem : ∀ b f, (b, f) ∈ T ↔ (trm L b = true ∧ lo ≤ f ∧ f ≤ F ∧ Rd L ln s f i b ∧ ∀ f', lo ≤ f' → f' ≤ F → Rd L ln s f' i b → f ≤ f')
theorem least (X : Nat → Prop) : ∀ n, X n → ∃ m, m ≤ n ∧ X m ∧ ∀ k, X k → m ≤ k := fun n => by
  induction n using Nat.strongRecOn with
  | _ n ih =>
    intro h
    by_cases h1 : ∃ k, k < n ∧ X k
    · obtain ⟨k, hk, hx⟩ := h1
      obtain ⟨m, h2, h3, h4⟩ := ih k hk hx
      exact ⟨m, by omega, h3, h4⟩
    · exact ⟨n, Nat.le_refl _, h, fun k hk => Nat.le_of_not_lt fun hl => h1 ⟨k, hl, hk⟩⟩
theorem ThS.ex {L ln s lo F i T b f} (h : ThS L ln s lo F i T) (ht : trm L b = true) (h1 : lo ≤ f) (h2 : f ≤ F) (hr : Rd L ln s f i b) : ∃ g, (b, g) ∈ T ∧ g ≤ f := by
  obtain ⟨m, hm, ⟨x1, x2, x3⟩, h4⟩ := least (fun g => lo ≤ g ∧ g ≤ F ∧ Rd L ln s g i b) f ⟨h1, h2, hr⟩
  exact ⟨m, (h.mem b m).2 ⟨ht, x1, x2, x3, fun g a b c => h4 g ⟨a, b, c⟩⟩, hm⟩
theorem ThS.beg {L ln s at_ M T} (h : IV (stp L ln s at_) (trm L) [(0, at_)] M T) : ThS L ln s at_ at_ at_ T := by
  refine ⟨h.srt, h.nd, fun b f => ?_⟩
  rw [h.mem]
  constructor
  · rintro ⟨h1, ⟨k, hk, hr⟩, _⟩
    obtain ⟨rfl, rfl⟩ := Prod.mk.injEq .. ▸ List.mem_singleton.1 hk
    exact ⟨h1, Nat.le_refl _, Nat.le_refl _, .beg hr, fun _ h _ _ => h⟩
  · rintro ⟨h1, h2, h3, h4, _⟩
    obtain rfl : f = at_ := by omega
    refine ⟨h1, ⟨0, List.mem_singleton.2 rfl, h4.inv0⟩, fun p hp _ => ?_⟩
    obtain rfl := List.mem_singleton.1 hp; exact Nat.le_refl _
def nexts (L : List IN) (c : UInt8) (T : List (Nat × Nat)) : List (Nat × Nat) := (T.filter (sel L c)).map (fun p => (p.1 + 1, p.2))
theorem sel_ex {L : List IN} {c : UInt8} {p : Nat × Nat} : sel L c p = true ↔ ∃ x, L[p.1]? = some x ∧ x.op = 1 ∧ x.st c.toNat = true := by
  unfold sel
  split
  · rename_i h; simp [h]
  · rename_i x h; simp [h]
theorem nexts_mem {L c T k f} : (k, f) ∈ nexts L c T ↔ ∃ a x, k = a + 1 ∧ (a, f) ∈ T ∧ L[a]? = some x ∧ x.op = 1 ∧ x.st c.toNat = true := by
  unfold nexts
  rw [List.mem_map]
  constructor
  · rintro ⟨p, hp, e⟩
    obtain ⟨h1, h2⟩ := List.mem_filter.1 hp
    obtain ⟨x, h3, h4, h5⟩ := sel_ex.1 h2
    obtain ⟨e1, rfl⟩ := Prod.mk.injEq .. ▸ e
    exact ⟨p.1, x, e1.symm, h1, h3, h4, h5⟩
  · rintro ⟨a, x, rfl, h1, h3, h4, h5⟩
    exact ⟨(a, f), List.mem_filter.2 ⟨h1, sel_ex.2 ⟨x, h3, h4, h5⟩⟩, rfl⟩
theorem ThS.rd {L ln s lo F i T c k f b} (h : ThS L ln s lo F i T) (hc : s[i]? = some c) (hk : (k, f) ∈ nexts L c T) (hr : Rch (stp L ln s (i + 1)) k b) : lo ≤ f ∧ f ≤ F ∧ Rd L ln s f (i + 1) b := by
  obtain ⟨a, x, rfl, h1, h2, h3, h4⟩ := nexts_mem.1 hk
  obtain ⟨_, m1, m2, m3, _⟩ := (h.mem a f).1 h1
  exact ⟨m1, m2, .adv m3 h2 h3 hc h4 hr⟩
theorem ThS.rdn {L ln s lo F i T c f b} (h : ThS L ln s lo F i T) (hF : F ≤ i) (hc : s[i]? = some c) (h1 : lo ≤ f) (h2 : f ≤ F) (hr : Rd L ln s f (i + 1) b) : ∃ p, p ∈ nexts L c T ∧ p.2 ≤ f ∧ Rch (stp L ln s (i + 1)) p.1 b := by
  obtain ⟨a, x, c', r1, r2, r3, r4, r5, r6⟩ := hr.inv (by omega)
  rw [hc] at r4
  obtain rfl := Option.some.inj r4
  obtain ⟨g, hg, hl⟩ := h.ex (trm_of r2 (.inl r3)) h1 h2 r1
  exact ⟨(a + 1, g), nexts_mem.2 ⟨a, x, rfl, hg, r2, r3, r5⟩, hl, r6⟩
theorem ThS.adv {L ln s lo F i T c M T'} (h : ThS L ln s lo F i T) (hF : F ≤ i) (hc : s[i]? = some c) (v : IV (stp L ln s (i + 1)) (trm L) (nexts L c T) M T') : ThS L ln s lo F (i + 1) T' := by
  refine ⟨v.srt, v.nd, fun b f => ?_⟩
  rw [v.mem]
  constructor
  · rintro ⟨h1, ⟨k, hk, hr⟩, h3⟩
    obtain ⟨m1, m2, m3⟩ := h.rd hc hk hr
    refine ⟨h1, m1, m2, m3, fun g g1 g2 g3 => ?_⟩
    obtain ⟨p, p1, p2, p3⟩ := h.rdn hF hc g1 g2 g3
    have := h3 p p1 p3
    omega
  · rintro ⟨h1, m1, m2, m3, h3⟩
    obtain ⟨p, p1, p2, p3⟩ := h.rdn hF hc m1 m2 m3
    obtain ⟨q1, q2, q3⟩ := h.rd hc (k := p.1) (f := p.2) p1 p3
    have e : p.2 = f := by have := h3 _ q1 q2 q3; omega
    refine ⟨h1, ⟨p.1, by rw [← e]; exact p1, p3⟩, fun q hq hr => ?_⟩
    obtain ⟨q1, q2, q3⟩ := h.rd hc (k := q.1) (f := q.2) hq hr
    exact h3 _ q1 q2 q3
theorem ThS.advBeg {L ln s lo i T c M T'} (h : ThS L ln s lo i i T) (hl : lo ≤ i) (hc : s[i]? = some c) (v : IV (stp L ln s (i + 1)) (trm L) (nexts L c T ++ [(0, i + 1)]) M T') : ThS L ln s lo (i + 1) (i + 1) T' := by
  refine ⟨v.srt, v.nd, fun b f => ?_⟩
  rw [v.mem]
  have hrdn : ∀ g, lo ≤ g → g ≤ i + 1 → Rd L ln s g (i + 1) b → ∃ p, p ∈ nexts L c T ++ [(0, i + 1)] ∧ p.2 ≤ g ∧ Rch (stp L ln s (i + 1)) p.1 b := fun g g1 g2 g3 => by
    by_cases e : g = i + 1
    · subst e; exact ⟨(0, i + 1), List.mem_append_right _ (List.mem_singleton.2 rfl), Nat.le_refl _, g3.inv0⟩
    · obtain ⟨p, p1, p2, p3⟩ := h.rdn (Nat.le_refl _) hc g1 (by omega) g3
      exact ⟨p, List.mem_append_left _ p1, p2, p3⟩
  have hrd : ∀ p : Nat × Nat, p ∈ nexts L c T ++ [(0, i + 1)] → Rch (stp L ln s (i + 1)) p.1 b → lo ≤ p.2 ∧ p.2 ≤ i + 1 ∧ Rd L ln s p.2 (i + 1) b := fun p hp hr => by
    rcases List.mem_append.1 hp with hp | hp
    · obtain ⟨m1, m2, m3⟩ := h.rd hc (k := p.1) (f := p.2) hp hr
      exact ⟨m1, by omega, m3⟩
    · obtain rfl := List.mem_singleton.1 hp
      exact ⟨by show lo ≤ i + 1; omega, Nat.le_refl _, .beg hr⟩
  constructor
  · rintro ⟨h1, ⟨k, hk, hr⟩, h3⟩
    obtain ⟨m1, m2, m3⟩ := hrd (k, f) hk hr
    refine ⟨h1, m1, m2, m3, fun g g1 g2 g3 => ?_⟩
    obtain ⟨p, p1, p2, p3⟩ := hrdn g g1 g2 g3
    have := h3 p p1 p3
    omega
  · rintro ⟨h1, m1, m2, m3, h3⟩
    obtain ⟨p, p1, p2, p3⟩ := hrdn f m1 m2 m3
    obtain ⟨q1, q2, q3⟩ := hrd p p1 p3
    have e : p.2 = f := by have := h3 _ q1 q2 q3; omega
    refine ⟨h1, ⟨p.1, by rw [← e]; exact p1, p3⟩, fun q hq hr => ?_⟩
    obtain ⟨q1, q2, q3⟩ := hrd q hq hr
    exact h3 _ q1 q2 q3
theorem ThS.cut {L ln s lo F i T f0} (h : ThS L ln s lo F i T) (h0 : f0 ≤ F) (n : Nat) (h1 : ∀ k p, T[k]? = some p → (k < n ↔ p.2 ≤ f0)) : ThS L ln s lo f0 i (T.take n) := by
  refine ⟨h.srt.sublist (List.take_sublist _ _), h.nd.sublist ((List.take_sublist _ _).map _), fun b f => ?_⟩
  have hm : (b, f) ∈ T.take n ↔ ((b, f) ∈ T ∧ f ≤ f0) := by
    constructor
    · intro hb
      obtain ⟨k, hk⟩ := List.mem_iff_getElem?.1 hb
      rw [List.getElem?_take] at hk
      split at hk
      · rename_i hkn
        exact ⟨List.mem_of_getElem? hk, (h1 k _ hk).1 hkn⟩
      · cases hk
    · rintro ⟨hb, hf⟩
      obtain ⟨k, hk⟩ := List.mem_iff_getElem?.1 hb
      have := (h1 k _ hk).2 hf
      refine List.mem_iff_getElem?.2 ⟨k, ?_⟩
      rw [List.getElem?_take, if_pos this]; exact hk
  rw [hm, h.mem]
  constructor
  · rintro ⟨⟨a1, a2, a3, a4, a5⟩, a6⟩
    exact ⟨a1, a2, a6, a4, fun g g1 g2 g3 => a5 g g1 (by omega) g3⟩
  · rintro ⟨a1, a2, a3, a4, a5⟩
    refine ⟨⟨a1, a2, by omega, a4, fun g g1 g2 g3 => ?_⟩, a3⟩
    by_cases hg : g ≤ f0
    · exact a5 g g1 hg g3
    · omega
theorem ThS.none {L ln s lo F i} (h : ThS L ln s lo F i []) (b f : Nat) (ht : trm L b = true) (h1 : lo ≤ f) (h2 : f ≤ F) : ¬ Rd L ln s f i b := fun hr => by
  obtain ⟨g, hg, _⟩ := h.ex ht h1 h2 hr
  simp at hg
theorem Rd.gone {L ln s f i} (h : ∀ b, trm L b = true → ¬ Rd L ln s f i b) (hf : f ≤ i) : ∀ j b, i < j → ¬ Rd L ln s f j b := fun j => by
  induction j with
  | zero => intro b h; omega
  | succ j ih =>
    intro b hij hr
    obtain ⟨a, x, c, r1, r2, r3, _, _, _⟩ := hr.inv (by omega)
    by_cases e : i = j
    · subst e; exact h a (trm_of r2 (.inl r3)) r1
    · exact ih a (by omega) r1
def Mt (L : List IN) (ln : Bool) (s : List UInt8) (f e : Nat) : Prop := e ≤ s.length ∧ ∃ b, opAt L b 6 = true ∧ Rd L ln s f e b
theorem op6_trm {L : List IN} {b : Nat} (h : opAt L b 6 = true) : trm L b = true := by rw [trm_op, h]; simp
theorem ThS.hit {L ln s lo F i T} (h : ThS L ln s lo F i T) {k b f : Nat} (hk : T[k]? = some (b, f)) (hb : opAt L b 6 = true) (hi : i ≤ s.length) : lo ≤ f ∧ f ≤ F ∧ Mt L ln s f i := by
  obtain ⟨_, m1, m2, m3, _⟩ := (h.mem b f).1 (List.mem_of_getElem? hk)
  exact ⟨m1, m2, hi, b, hb, m3⟩
theorem ThS.mt {L ln s lo F i T f} (h : ThS L ln s lo F i T) (h1 : lo ≤ f) (h2 : f ≤ F) (hm : Mt L ln s f i) : ∃ k b g : Nat, T[k]? = some (b, g) ∧ opAt L b 6 = true ∧ g ≤ f := by
  obtain ⟨_, b, hb, hr⟩ := hm
  obtain ⟨g, hg, hl⟩ := h.ex (op6_trm hb) h1 h2 hr
  obtain ⟨k, hk⟩ := List.mem_iff_getElem?.1 hg
  exact ⟨k, b, g, hk, hb, hl⟩
structure LI (L : List IN) (ln : Bool) (s : List UInt8) (lo F0 F i n : Nat) (T : List (Nat × Nat)) (mf mt : Nat) (fd : Bool) : Prop where
  st : ThS L ln s lo F i T
  lF : lo ≤ F
  Fi : F ≤ i
  FF : F ≤ F0
  no : ∀ f e, lo ≤ f → f < F → e < n → ¬ Mt L ln s f e
  nF : fd = false → F = F0 ∧ mf = 0 ∧ mt = 0 ∧ ∀ e, e < n → ¬ Mt L ln s F e
  yes : fd = true → mf = F ∧ Mt L ln s F mt ∧ mt < n ∧ ∀ e, e < n → Mt L ln s F e → e ≤ mt
theorem LI.start {L ln s lo i T} (h : ThS L ln s lo i i T) (hl : lo ≤ i) (hn : ∀ f e, lo ≤ f → f ≤ i → e < i → ¬ Mt L ln s f e) : LI L ln s lo i i i i T 0 0 false :=
  ⟨h, hl, Nat.le_refl _, Nat.le_refl _, fun f e h1 h2 h3 => hn f e h1 (by omega) h3, fun _ => ⟨rfl, rfl, rfl, fun e he => hn i e hl (Nat.le_refl _) he⟩, fun h => by cases h⟩
theorem LI.hit {L : List IN} {ln : Bool} {s : List UInt8} {lo F0 F i : Nat} {T : List (Nat × Nat)} {mf mt : Nat} {fd : Bool} {k b f : Nat} (h : LI L ln s lo F0 F i i T mf mt fd) (hi : i ≤ s.length) (hk : T[k]? = some (b, f)) (hb : opAt L b 6 = true) (hj : ∀ j p, j < k → T[j]? = some p → opAt L p.1 6 = false) (n : Nat) (hn : ∀ k p, T[k]? = some p → (k < n ↔ p.2 ≤ f)) : LI L ln s lo F0 f i (i + 1) (T.take n) f i true := by
  obtain ⟨a1, a2, a3⟩ := h.st.hit hk hb hi
  refine ⟨h.st.cut a2 n hn, a1, by have := h.Fi; omega, by have := h.FF; omega, fun g e g1 g2 g3 hm => ?_, (fun h => by cases h), fun _ => ⟨rfl, a3, Nat.lt_succ_self _, fun e he _ => by omega⟩⟩
  by_cases he : e < i
  · exact h.no g e g1 (by omega) he hm
  · obtain rfl : e = i := by omega
    obtain ⟨q, b', g', hq, hb', hg'⟩ := h.st.mt g1 (by omega) hm
    by_cases hqk : q < k
    · have := hj q _ hqk hq
      rw [hb'] at this
      cases this
    · have hle : f ≤ g' := by
        by_cases e : q = k
        · subst e; rw [hk] at hq; cases hq; exact Nat.le_refl _
        · obtain ⟨k1, k2⟩ := List.getElem?_eq_some_iff.1 hk
          obtain ⟨q1, q2⟩ := List.getElem?_eq_some_iff.1 hq
          have := List.pairwise_iff_getElem.1 h.st.srt k q k1 q1 (by omega)
          rw [k2, q2] at this
          exact this
      omega
theorem LI.miss {L : List IN} {ln : Bool} {s : List UInt8} {lo F0 F i : Nat} {T : List (Nat × Nat)} {mf mt : Nat} {fd : Bool} (h : LI L ln s lo F0 F i i T mf mt fd) (hj : ∀ (j : Nat) (p : Nat × Nat), T[j]? = some p → opAt L p.1 6 = false) : LI L ln s lo F0 F i (i + 1) T mf mt fd := by
  have hno : ∀ g, lo ≤ g → g ≤ F → ¬ Mt L ln s g i := fun g g1 g2 hm => by
    obtain ⟨q, b', g', hq, hb', hg'⟩ := h.st.mt g1 g2 hm
    have := hj q _ hq
    rw [hb'] at this
    cases this
  refine ⟨h.st, h.lF, h.Fi, h.FF, fun g e g1 g2 g3 hm => ?_, fun hf => ?_, fun hf => ?_⟩
  · by_cases he : e < i
    · exact h.no g e g1 g2 he hm
    · obtain rfl : e = i := by omega
      exact hno g g1 (by omega) hm
  · obtain ⟨a, b, c, d⟩ := h.nF hf
    refine ⟨a, b, c, fun e he hm => ?_⟩
    by_cases he : e < i
    · exact d e he hm
    · obtain rfl : e = i := by omega
      exact hno F h.lF (Nat.le_refl _) hm
  · obtain ⟨a, b, c, d⟩ := h.yes hf
    refine ⟨a, b, by omega, fun e he hm => ?_⟩
    by_cases he : e < i
    · exact d e he hm
    · obtain rfl : e = i := by omega
      exact (hno F h.lF (Nat.le_refl _) hm).elim
theorem LI.adv {L ln s lo F0 F i T mf mt fd c M T'} (h : LI L ln s lo F0 F i (i + 1) T mf mt fd) (hc : s[i]? = some c) (v : IV (stp L ln s (i + 1)) (trm L) (nexts L c T) M T') : LI L ln s lo F0 F (i + 1) (i + 1) T' mf mt fd :=
  ⟨h.st.adv h.Fi hc v, h.lF, by have := h.Fi; omega, h.FF, h.no, h.nF, h.yes⟩
def RES (L : List IN) (ln : Bool) (s : List UInt8) (lo F0 mf mt : Nat) (fd : Bool) : Prop :=
  (fd = true ∧ lo ≤ mf ∧ mf ≤ F0 ∧ Mt L ln s mf mt ∧ (∀ e, Mt L ln s mf e → e ≤ mt) ∧ ∀ f e, lo ≤ f → f < mf → ¬ Mt L ln s f e) ∨ (fd = false ∧ mf = 0 ∧ mt = 0 ∧ ∀ f e, lo ≤ f → f ≤ F0 → ¬ Mt L ln s f e)
theorem LI.res {L ln s lo F0 F i n T mf mt fd} (h : LI L ln s lo F0 F i n T mf mt fd) (hn : ∀ f e, lo ≤ f → f ≤ F → Mt L ln s f e → e < n) : RES L ln s lo F0 mf mt fd := by
  cases fd with
  | true =>
    obtain ⟨rfl, b, c, d⟩ := h.yes rfl
    exact .inl ⟨rfl, h.lF, h.FF, b, fun e he => d e (hn _ _ h.lF (Nat.le_refl _) he) he, fun f e h1 h2 h3 => h.no f e h1 h2 (hn _ _ h1 (by omega) h3) h3⟩
  | false =>
    obtain ⟨rfl, b, c, d⟩ := h.nF rfl
    refine .inr ⟨rfl, b, c, fun f e h1 h2 h3 => ?_⟩
    by_cases hf : f = F
    · subst hf; exact d e (hn _ _ h1 (Nat.le_refl _) h3) h3
    · exact h.no f e h1 (by omega) (hn _ _ h1 h2 h3) h3
theorem LI.last {L ln s lo F0 F T mf mt fd} (h : LI L ln s lo F0 F s.length (s.length + 1) T mf mt fd) : RES L ln s lo F0 mf mt fd :=
  h.res fun f e _ _ hm => by have := hm.1; omega
theorem LI.empty {L ln s lo F0 F i mf mt fd} (h : LI L ln s lo F0 F i i [] mf mt fd) : RES L ln s lo F0 mf mt fd :=
  h.res fun f e h1 h2 hm => by
    obtain ⟨_, b, hb, hr⟩ := hm
    refine Nat.lt_of_not_le fun hle => ?_
    by_cases he : e = i
    · subst he; exact h.st.none b f (op6_trm hb) h1 h2 hr
    · exact Rd.gone (fun b hb => h.st.none b f hb h1 h2) (by have := h.Fi; omega) e b (by omega) hr
end Go.Proofs.YtfgcnknmiclfnaaDoor
