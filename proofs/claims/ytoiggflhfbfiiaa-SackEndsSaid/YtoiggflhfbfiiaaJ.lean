/- Weigh. -/
import Derived.Test.YtoiggflhfbfiiaaI
namespace Go.Proofs.Ytoiggflhfbfiiaa
open Go.RowKit Go.Shelf

theorem together_perm {g : St → Int} {l l' : List Held} (h : List.Perm l l') : together l g = together l' g := by
  unfold together
  refine h.foldl_eq' (fun x _ y _ z => ?_) _
  simp only [Reach.plus, Reach.mk.injEq]
  omega

theorem isMeas_water (w : World) (B : Nat) : IsMeas w B (.func (.func 61) #[] #[]) St.water :=
  ⟨_, #[], rfl, enters_of Try.func61 (by kernel_rfl) rfl, fun W t _ ht => water_any _ _ _ _ W ht⟩
theorem isMeas_carbon (w : World) (B : Nat) : IsMeas w B (.func (.func 62) #[] #[]) St.carbon :=
  ⟨_, #[], rfl, enters_of Try.func62 (by kernel_rfl) rfl, fun W t _ ht => carbon_any _ _ _ _ W ht⟩
theorem isMeas_smoke (w : World) (B : Nat) : IsMeas w B (.func (.func 63) #[] #[]) St.smoke :=
  ⟨_, #[], rfl, enters_of Try.func63 (by kernel_rfl) rfl, fun W t _ ht => smoke_any _ _ _ _ W ht⟩
theorem isMeas_clay (w : World) (B : Nat) : IsMeas w B (.func (.func 64) #[] #[]) St.clay :=
  ⟨_, #[], rfl, enters_of Try.func64 (by kernel_rfl) rfl, fun W t _ ht => clay_any _ _ _ _ W ht⟩
theorem isMeas_lead (w : World) (B : Nat) : IsMeas w B (.func (.func 65) #[] #[]) St.lead :=
  ⟨_, #[], rfl, enters_of Try.func65 (by kernel_rfl) rfl, fun W t _ ht => lead_any _ _ _ _ W ht⟩
theorem isMeas_over (w : World) (q : Nat) (n : Int) (hn : 0 ≤ n) (hn' : n ≤ 1000) (hq : w.cell? ⟨q, 0, none⟩ = some (.int .i64 n)) (hlt : q < w.heap.size) :
    IsMeas w w.heap.size (.func (.func 66) #[] #[.pointer (some ⟨q, 0, none⟩)]) (carbonOver n) :=
  ⟨_, #[.pointer (some ⟨q, 0, none⟩)], rfl, enters_of Try.func66 (by kernel_rfl) rfl, fun W t hW ht => carbonOver_any _ _ _ _ n q W ht hn hn' ((hW.cell (p := ⟨q, 0, none⟩) hlt).trans hq) (by have := hW.size; omega)⟩
theorem isMeas_lack (w : World) (q : Nat) (n : Int) (hn : 0 ≤ n) (hn' : n ≤ 1000) (hq : w.cell? ⟨q, 0, none⟩ = some (.int .i64 n)) (hlt : q < w.heap.size) :
    IsMeas w w.heap.size (.func (.func 67) #[] #[.pointer (some ⟨q, 0, none⟩)]) (waterLack n) :=
  ⟨_, #[.pointer (some ⟨q, 0, none⟩)], rfl, enters_of Try.func67 (by kernel_rfl) rfl, fun W t hW ht => waterLack_any _ _ _ _ n q W ht hn hn' ((hW.cell (p := ⟨q, 0, none⟩) hlt).trans hq) (by have := hW.size; omega)⟩

def partG : Nat → St → Int
  | 0 => St.water
  | 1 => St.carbon
  | 2 => St.smoke
  | 3 => St.clay
  | _ => St.lead
def partV : Nat → Value
  | 0 => .func (.func 61) #[] #[]
  | 1 => .func (.func 62) #[] #[]
  | 2 => .func (.func 63) #[] #[]
  | 3 => .func (.func 64) #[] #[]
  | _ => .func (.func 65) #[] #[]
theorem isMeas_part (w : World) (B k : Nat) : IsMeas w B (partV k) (partG k) := by
  match k with
  | 0 => exact isMeas_water w B
  | 1 => exact isMeas_carbon w B
  | 2 => exact isMeas_smoke w B
  | 3 => exact isMeas_clay w B
  | n + 4 => exact isMeas_lead w B
theorem partG_bd (k : Nat) : ∀ t : St, t.ok → -800000000000000000 ≤ partG k t ∧ partG k t ≤ 800000000000000000 := by
  intro t h
  have h1 := St.water_bd h
  have h2 := St.carbon_bd h
  have h3 := St.smoke_bd h
  have h4 := St.clay_bd h
  have h5 := St.lead_bd h
  unfold partG
  split <;> omega

def gramsOf (r : Reach) : Span := ⟨r.least / 1000000000, cdiv r.most 1000000000⟩
def heldsOf (l : List Sack) (b : List Take) : List Held := (gather l b).map (·.2)
def partOf (l : List Sack) (b : List Take) (k : Nat) : Span := gramsOf (together (heldsOf l b) (partG k))

theorem validB_take {l : List Sack} {b : List Take} (h : validB l b = true) : ∀ t ∈ b, takeOk l t = true := by
  simp only [validB, Bool.and_eq_true] at h
  exact fun t ht => List.all_eq_true.1 h.2 t ht
theorem validB_len {l : List Sack} {b : List Take} (h : validB l b = true) : 1 ≤ b.length ∧ b.length ≤ 8 := by
  simp only [validB, Bool.and_eq_true, decide_eq_true_eq] at h
  exact h.1.2
theorem updH_len (k : Int) (v : Held) : ∀ m : List (Int × Held), m.length ≤ (updH m k v).length ∧ (updH m k v).length ≤ m.length + 1 ∧ 0 < (updH m k v).length
  | [] => by simp [updH]
  | (a, b) :: l => by
    have := updH_len k v l
    unfold updH
    split <;> simp <;> omega
theorem gather_len (l : List Sack) : ∀ (b : List Take), (gather l b).length ≤ b.length ∧ (b ≠ [] → 0 < (gather l b).length) := by
  intro b
  suffices H : ∀ (b : List Take) (m : List (Int × Held)), m.length ≤ (b.foldl (gstep l) m).length ∧ (b.foldl (gstep l) m).length ≤ m.length + b.length ∧ (b ≠ [] → 0 < (b.foldl (gstep l) m).length) by
    have := H b []
    exact ⟨by simpa [gather] using this.2.1, this.2.2⟩
  intro b
  induction b with
  | nil => intro m; simp
  | cons t b ih =>
    intro m
    have h1 := ih (gstep l m t)
    have h2 := updH_len t.s ⟨sackAt l t.s, ⟨(oldH m t.s).weight.lo + t.m.lo, (oldH m t.s).weight.hi + t.m.hi⟩⟩ m
    have h3 : (gstep l m t).length = (updH m t.s ⟨sackAt l t.s, ⟨(oldH m t.s).weight.lo + t.m.lo, (oldH m t.s).weight.hi + t.m.hi⟩⟩).length := rfl
    simp only [List.foldl_cons, List.length_cons]
    refine ⟨by omega, by omega, fun _ => by omega⟩

/-- Keys of what was gathered are sacks' numbers. -/
theorem gather_key (l : List Sack) (b : List Take) : ∀ p ∈ gather l b, ∃ t ∈ b, t.s = p.1 := by
  suffices H : ∀ (b : List Take) (m : List (Int × Held)), ∀ p ∈ b.foldl (gstep l) m, (∃ t ∈ b, t.s = p.1) ∨ p ∈ m by
    intro p hp
    rcases H b [] p hp with h | h
    · exact h
    · simp at h
  intro b
  induction b with
  | nil => intro m p hp; exact .inr hp
  | cons t b ih =>
    intro m p hp
    rcases ih _ p hp with ⟨u, hu, he⟩ | h
    · exact .inl ⟨u, by simp [hu], he⟩
    · rcases mem_updH _ _ _ _ h with rfl | h
      · exact .inl ⟨t, by simp, rfl⟩
      · exact .inr h

theorem helds_ok {l : List Sack} {b : List Take} (h : validB l b = true) : ∀ x ∈ heldsOf l b, x.ok := by
  intro x hx
  simp only [heldsOf, List.mem_map] at hx
  obtain ⟨p, hp, rfl⟩ := hx
  have h1 := gather_bd l b (fun t ht => by have := validB_take h t ht; simp only [takeOk, Bool.and_eq_true] at this; exact this.2) p hp
  obtain ⟨t, ht, he⟩ := gather_key l b p hp
  have h2 := validB_take h t ht
  have h3 := validB_len h
  simp only [takeOk, idxB, Bool.and_eq_true, decide_eq_true_eq] at h2
  refine ⟨?_, h1.2.1, h1.2.2.1, by omega⟩
  rw [h1.1, ← he, sackAt]
  simp only [validB, sacksOk, Bool.and_eq_true] at h
  have h4 := h.1.1.2
  have hlt : t.s.toNat < l.length := by omega
  rw [List.getD_eq_getElem?_getD, List.getElem?_eq_getElem hlt]
  exact List.all_eq_true.1 h4 _ (List.getElem_mem hlt)
theorem helds_len {l : List Sack} {b : List Take} (h : validB l b = true) : 0 < (heldsOf l b).length ∧ (heldsOf l b).length ≤ 8 := by
  have h1 := gather_len l b
  have h2 := validB_len h
  have h3 := h1.2 (by intro e; subst e; simp at h2)
  simp only [heldsOf, List.length_map]
  omega
end Go.Proofs.Ytoiggflhfbfiiaa
